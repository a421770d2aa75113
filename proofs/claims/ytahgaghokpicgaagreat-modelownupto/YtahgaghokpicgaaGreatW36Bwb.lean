/- The law that what is told is the caller's: it tells true. -/
import Derived.Deep.RegionHeld3
import Derived.Deep.CutRange
import Derived.Test.YtahgaghokpicgaaGreatW35Bwa
namespace Go.Proofs.YtahgaghokpicgaaGreat
open Go.RowKit Go.Maps
set_option linter.unusedVariables false
set_option maxHeartbeats 16000000
set_option linter.unusedSimpArgs false
theorem wpList_store_rowL {P : Program} {ops : Array Oper} {rest : List Oper} {o : Oper} {a : Act} {w : World} {Q : Exit → Act → World → Prop} (hgd : o.guard = none) (ty : TypeId) (x y : Operand) (ho : o.op = .store ty x y)
    (g : Nat) (cells : Array Value) (hx : a.eval x = .pointer (some ⟨g, 0, none⟩)) (hy : a.eval y = .agg cells)
    (t : TypeId) (old : Array Value) (hg : w.heap[g]? = some (.cells old t (0, 0))) (hi : (P.info? ty).map (·.size) = some cells.size)
    (hold : old.size = cells.size) (h1 : cells.all (·.oneCell') = true) (w' : World) (hw : w' = w.setRow g cells)
    (h : wpList P ops Q rest (a.put o.dst undef) w') : wpList P ops Q (o :: rest) a w := by
 subst hw
 exact wpList_store_row hgd ty x y ho g cells hx hy t old hg hi hold h1 h
theorem fld_5 (a b c d e f g : Value) (w : World) : (Instr.field 39 (.agg #[a, b, c, d, e, f, g]) 5).run Tryz.prog w = .ok f w := by kernel_rfl
def zeroCall : Array Value := #[.bool false, .int .u8 0, .int .u64 0, .int .u64 0, .int .u64 0, .int .u64 0, .bool false, .int .i64 0, .int .i64 0, .slice none 0 0, .int .u64 0, .int .u64 0, .int .i64 0, .bool false, .int .u64 0, .bool false, .int .u64 0, .slice none 0 0, .int .u64 0, .int .u64 0]
def CAt (w : World) (cp : Nat) (x : CallP) : Prop := w.heap[cp]? = some (.cells #[.bool x.tk, .int .u8 x.o.kd, .int .u64 x.o.k, .int .u64 x.o.v, .int .u64 x.o.od, .int .u64 x.o.hk, .bool x.r5, .int .i64 x.r6, .int .i64 x.r7, .slice x.kp x.o.ks.length x.kc, .int .u64 x.o.lo, .int .u64 x.o.hi, .int .i64 x.B.e, .bool x.B.f, .int .u64 x.B.x, .bool x.B.d, .int .u64 x.B.h, .slice x.lp x.B.l.length x.lc, .int .u64 x.B.n, .int .u64 x.hn] 41 (0, 0))
theorem CAt.kept {F : Nat → Prop} {w w' : World} {cp : Nat} {x : CallP} (h : CAt w cp x) (c : Chg F w w') (hF : ¬ F cp) : CAt w' cp x := (c.block cp (lt_of h) hF).trans h
theorem c_one (x : CallP) : (#[.bool x.tk, .int .u8 x.o.kd, .int .u64 x.o.k, .int .u64 x.o.v, .int .u64 x.o.od, .int .u64 x.o.hk, .bool x.r5, .int .i64 x.r6, .int .i64 x.r7, .slice x.kp x.o.ks.length x.kc, .int .u64 x.o.lo, .int .u64 x.o.hi, .int .i64 x.B.e, .bool x.B.f, .int .u64 x.B.x, .bool x.B.d, .int .u64 x.B.h, .slice x.lp x.B.l.length x.lc, .int .u64 x.B.n, .int .u64 x.hn] : Array Value).all (·.oneCell') = true := by simp [Value.oneCell']
theorem copied (W : World) (x : CallP) : CAt ((W.alloc (.cells zeroCall 41)).setRow W.heap.size #[.bool x.tk, .int .u8 x.o.kd, .int .u64 x.o.k, .int .u64 x.o.v, .int .u64 x.o.od, .int .u64 x.o.hk, .bool x.r5, .int .i64 x.r6, .int .i64 x.r7, .slice x.kp x.o.ks.length x.kc, .int .u64 x.o.lo, .int .u64 x.o.hi, .int .i64 x.B.e, .bool x.B.f, .int .u64 x.B.x, .bool x.B.d, .int .u64 x.B.h, .slice x.lp x.B.l.length x.lc, .int .u64 x.B.n, .int .u64 x.hn]) W.heap.size x ∧ Chg (fun _ => False) W ((W.alloc (.cells zeroCall 41)).setRow W.heap.size #[.bool x.tk, .int .u8 x.o.kd, .int .u64 x.o.k, .int .u64 x.o.v, .int .u64 x.o.od, .int .u64 x.o.hk, .bool x.r5, .int .i64 x.r6, .int .i64 x.r7, .slice x.kp x.o.ks.length x.kc, .int .u64 x.o.lo, .int .u64 x.o.hi, .int .i64 x.B.e, .bool x.B.f, .int .u64 x.B.x, .bool x.B.d, .int .u64 x.B.h, .slice x.lp x.B.l.length x.lc, .int .u64 x.B.n, .int .u64 x.hn]) := by
 have e := heap_alloc_new W (.cells zeroCall 41)
 refine ⟨?_, ?_⟩
 ·unfold CAt World.setRow
  simp only [Array.getElem?_modify, if_true]
  rw [e]
  rfl
 ·have c1 : Chg (fun _ => False) W (W.alloc (.cells zeroCall 41)) := (Chg.refl _ _).alloc _
  exact c1.trans (chg_setRow2 _ _ _) (fun _ _ x => x) (fun i hi e => by omega)
theorem OwnM.lt {E : Nat → Prop} {base : Nat} {X : World} {b m nw hd r mu Bk n K : Nat} (H : OwnM E base X b m nw hd r mu Bk n K) : nw < X.heap.size ∧ hd < X.heap.size ∧ r < X.heap.size ∧ Bk < X.heap.size ∧ b < X.heap.size := by
 obtain ⟨hb, f, h, g, k1, v1, l1, sv, k2, v2, l2, ev, hM, hR, hK⟩ := H
 obtain ⟨pm, ph, nm, cm, nh, ch, hr⟩ := hR.cells
 exact ⟨hM.blk.2.1, hM.blk.2.2.1, lt_of hr, lt_of hK.kept.blk, lt_of hb⟩
theorem OwnM.also {E : Nat → Prop} {base : Nat} {X : World} {b m nw hd r mu Bk n K cp : Nat} {x : CallP} (H : OwnM E base X b m nw hd r mu Bk n K) (hc : CAt X cp x) : OwnM (fun i => i = cp) base X b m nw hd r mu Bk n K := by
 obtain ⟨hb, f, h, g, k1, v1, l1, sv, k2, v2, l2, ev, hM, hR, hK⟩ := H
 exact ⟨hb, f, h, g, k1, v1, l1, sv, k2, v2, l2, ev, hM, hR, hK.kept, hK.n1, hK.n2, hK.s1, hK.s2, fun i hi => by rw [hi]; exact ⟨hK.ty hc (by decide), lt_of hc⟩⟩
theorem OwnT.quiet {E : Nat → Prop} {base : Nat} {X Y : World} {b m nw hd r mu Bk n K : Nat} {o : OpP} {B : Ans} (H : OwnT E base X b m nw hd r mu Bk n K o B) (c : Chg (fun _ => False) X Y) : OwnT E base Y b m nw hd r mu Bk n K o B := by
 obtain ⟨hb, R, f, h, g, h', g', k1, v1, l1, sv, k2, v2, l2, ev, hRt, hM, hp, hR, hK⟩ := H
 exact ⟨both_kept hb c (fun i x => x.elim), R, f, h, g, h', g', k1, v1, l1, sv, k2, v2, l2, ev, hRt, hM.quiet c, hp, hR.quiet c, hK.other c (fun i x => x.elim)⟩
theorem OwnD.quiet {E : Nat → Prop} {base : Nat} {X Y : World} {b m nw hd r mu Bk n K : Nat} {o : OpP} {th : Nat} (H : OwnD E base X b m nw hd r mu Bk n K o th) (c : Chg (fun _ => False) X Y) : OwnD E base Y b m nw hd r mu Bk n K o th := by
 obtain ⟨hb, T, f, h, g, k1, v1, l1, sv, k2, v2, l2, ev, hT, hM, hR, hK⟩ := H
 exact ⟨both_kept hb c (fun i x => x.elim), T, f, h, g, k1, v1, l1, sv, k2, v2, l2, ev, hT, hM.quiet c, hR.quiet c, hK.other c (fun i x => x.elim)⟩
theorem Wrt.chg {E : Nat → Prop} {base : Nat} {W X Y : World} (h : Wrt E base X Y) (c : Chg (fun i => base ≤ i) W X) : Chg (fun i => base ≤ i) W Y := by
 obtain ⟨G, hc, -, hb⟩ := h
 exact c.trans hc (fun _ _ x => x) (fun i _ x => hb i x)
theorem Wrt.keys {E : Nat → Prop} {base : Nat} {X Y : World} {p : Option Addr} {ss : List Nat} (h : Wrt E base X Y) (hk : KeysAt X p ss) (hE : ∀ i, (ss ≠ [] ∧ ∃ off, p = some ⟨i, off, none⟩) → E i) : KeysAt Y p ss := by
 obtain ⟨G, hc, hG, -⟩ := h
 refine hk.chgE hc ?_
 by_cases e : ss = []
 ·exact .inl e
 ·exact .inr (fun bk off q x => hG bk (hE bk ⟨e, off, q⟩) x)
set_option maxRecDepth 100000 in
theorem own_walk6 (multi : Int) (p : Option Addr) (c : Nat) (l : List CallP) (W : World) (hO : CallsAtP W p l) (hl : l.length ≤ 50000) :
    Calls Tryz.prog 4 #[.int .i64 multi, .slice p l.length c] W fun e W' => e = .returned (.bool true) ∧ Chg (fun k => W.heap.size ≤ k) W W' := by
 have HL := keepH (live_06 W)
 have HO := keepH hO
 obtain ⟨N, hN⟩ : ∃ N, N = l.length := ⟨_, rfl⟩
 have hN2 : N ≤ 50000 := by omega
 have HNN := keepH hN
 rw [← hN]
 clear hO hl hN
 go_enter Tryz.func4, Tryz.ntmps4
 go_wp2_with fail
 refine HL.out.mono ?_
 rintro e w1 ⟨rfl, C1⟩
 have HC1 := keepH C1
 clear C1 HL
 go_wp2_with fail
 by_cases hm : multi < 1 ∨ 1024 < multi
 ·refine (begun_no multi hm w1).mono ?_
  rintro e w2 ⟨rfl, rfl⟩
  go_wp2_with fail
  go_ret
  exact ⟨by simp, HC1.out.mono (fun _ _ x => x.elim)⟩
 ·obtain ⟨mu, rfl⟩ : ∃ mu : Nat, multi = (mu : Int) := ⟨multi.toNat, by omega⟩
  have HMU : Hid (mu ≤ 1024) := by show _ ≤ _; omega
  refine (begun_yes mu (by omega) (by omega) w1).mono ?_
  rintro e w2 ⟨⟨b, m, nw, hd, r, rfl, hT, h1, h2, h3⟩, C2⟩
  have HLB : Hid (W.heap.size ≤ nw ∧ W.heap.size ≤ hd ∧ W.heap.size ≤ r) := by have := HC1.out.size; exact ⟨by omega, by omega, by omega⟩
  have C3 : Chg (fun _ => False) W w2 := chgF HC1.out C2
  obtain ⟨w3, hw3⟩ : ∃ w3, w3 = w2.alloc (.cells (bookCells2 (.slice none 0 0) (.slice none 0 0)) 73) := ⟨_, rfl⟩
  obtain ⟨Bk, hBk⟩ : ∃ k, k = w2.heap.size := ⟨_, rfl⟩
  have HT : Hid (OwnM (fun _ => False) W.heap.size w3 b m nw hd r mu Bk 0 0 ∧ Chg (fun k => W.heap.size ≤ k) W w3) := by
   rw [hw3, hBk]
   exact ⟨OwnM.start (W := W) hT C3.size, (C3.alloc _).mono (fun _ _ x => x.elim)⟩
  clear hT h1 h2 h3 C2 C3 hm HC1
  go_upto_region 7 with fail
  (try rw [← hBk])
  (try unfold bookCells2 at hw3)
  (try rw [← hw3])
  clear hw3 hBk
  go_wp2_with fail
  go_loopw [8] (fun s8 wr => ∃ i : Nat, i ≤ N ∧ s8 = .int .i64 i ∧ Hid (OwnM (fun _ => False) W.heap.size wr b m nw hd r mu Bk i (i * 200010) ∧ Chg (fun k => W.heap.size ≤ k) W wr)) (fun s8 _ => N - (intOf s8).toNat)
  case atStart => exact ⟨0, Nat.zero_le _, rfl, HT.out.1.weak (fun _ x => x) (Nat.le_refl _) (by omega), HT.out.2⟩
  case round =>
   obtain ⟨i, hil, rfl, HX⟩ := hrel
   clear HT
   by_cases hlt : i < N
   ·have q1 : (i : Int) < (N : Int) := by omega
    have q0 : (0 : Int) ≤ (i : Int) := by omega
    obtain ⟨x, hx⟩ : ∃ x, l[i]? = some x := ⟨l[i]'(by have := HNN.out; omega), List.getElem?_eq_getElem _⟩
    obtain ⟨bk, off, rfl, hr, hok⟩ := HO.out.get HX.out.2 (fun i h => h) i x hx
    have HR := keepH hr
    have HOK : Hid (∀ w, Chg (fun k => W.heap.size ≤ k) W w → KeysAt w x.kp x.o.ks ∧ PairsAt w x.lp x.B.l) := fun w cw => ⟨hok.ks.chgE cw (hok.ks.low (fun i hi y => by omega)), hok.ps.chgE cw (hok.ps.low (fun i hi y => by omega))⟩
    have HXO : Hid (x.o.Ok ∧ x.B.h < 18446744073709551616 ∧ x.hn < 18446744073709551616 ∧ x.B.l.length ≤ 8796093021952) := ⟨hok.o, hok.ah, hok.hn, hok.pl⟩
    obtain ⟨w4, hw4⟩ : ∃ w4, w4 = (wr.alloc (.cells zeroCall 41)).setRow wr.heap.size #[.bool x.tk, .int .u8 x.o.kd, .int .u64 x.o.k, .int .u64 x.o.v, .int .u64 x.o.od, .int .u64 x.o.hk, .bool x.r5, .int .i64 x.r6, .int .i64 x.r7, .slice x.kp x.o.ks.length x.kc, .int .u64 x.o.lo, .int .u64 x.o.hi, .int .i64 x.B.e, .bool x.B.f, .int .u64 x.B.x, .bool x.B.d, .int .u64 x.B.h, .slice x.lp x.B.l.length x.lc, .int .u64 x.B.n, .int .u64 x.hn] := ⟨_, rfl⟩
    obtain ⟨cp, hcp⟩ : ∃ k, k = wr.heap.size := ⟨_, rfl⟩
    have HCP : Hid (CAt w4 cp x ∧ Chg (fun _ => False) wr w4) := by rw [hw4, hcp]; exact copied wr x
    have HB0 : Hid ((wr.alloc (.cells zeroCall 41)).heap[wr.heap.size]? = some (.cells zeroCall 41 (0, 0))) := heap_alloc_new _ _
    have HLT : Hid (nw < cp ∧ hd < cp ∧ r < cp) := by rw [hcp]; exact ⟨HX.out.1.lt.1, HX.out.1.lt.2.1, HX.out.1.lt.2.2.1⟩
    have HX4 : Hid (OwnM (fun _ => False) W.heap.size w4 b m nw hd r mu Bk i (i * 200010) ∧ Chg (fun k => W.heap.size ≤ k) W w4) := ⟨HX.out.1.quiet HCP.out.2, HX.out.2.trans HCP.out.2 (fun _ _ x => x) (fun _ _ x => x.elim)⟩
    have HW4 := keepH hw4
    have HC9 : Hid (x.cs.toArray = #[.bool x.tk, .int .u8 x.o.kd, .int .u64 x.o.k, .int .u64 x.o.v, .int .u64 x.o.od, .int .u64 x.o.hk, .bool x.r5, .int .i64 x.r6, .int .i64 x.r7, .slice x.kp x.o.ks.length x.kc, .int .u64 x.o.lo, .int .u64 x.o.hi, .int .i64 x.B.e, .bool x.B.f, .int .u64 x.B.x, .bool x.B.d, .int .u64 x.B.h, .slice x.lp x.B.l.length x.lc, .int .u64 x.B.n, .int .u64 x.hn]) := rfl
    obtain ⟨tk, htk⟩ : ∃ t, t = x.tk := ⟨_, rfl⟩
    have c0 : w4.cell? ⟨wr.heap.size, 0, none⟩ = some (.bool tk) := by rw [← hcp, htk]; exact cell_of HCP.out.1 0
    have HCE := keepH hcp
    clear hx hok hr hw4 hcp htk
    go_upto_if 42 with (first
     | (refine wpList_load_mid rfl _ _ rfl bk (off + i * 20) rfl x.cs _ HR.out Tryz.underlying41 rfl (by kernel_rfl) ?_; rw [HC9.out])
     | (refine wpList_store_rowL rfl _ _ _ rfl wr.heap.size #[.bool x.tk, .int .u8 x.o.kd, .int .u64 x.o.k, .int .u64 x.o.v, .int .u64 x.o.od, .int .u64 x.o.hk, .bool x.r5, .int .i64 x.r6, .int .i64 x.r7, .slice x.kp x.o.ks.length x.kc, .int .u64 x.o.lo, .int .u64 x.o.hi, .int .i64 x.B.e, .bool x.B.f, .int .u64 x.B.x, .bool x.B.d, .int .u64 x.B.h, .slice x.lp x.B.l.length x.lc, .int .u64 x.B.n, .int .u64 x.hn] rfl rfl 41 zeroCall HB0.out (by kernel_rfl) rfl (c_one x) w4 HW4.out ?_)
     | fail)
    (try simp only [List.getElem_toArray, List.getElem_cons_succ, List.getElem_cons_zero])
    (try simp only [Act.put])
    (try simp only [List.setIfInBounds_toArray])
    (repeat (first | simp only [List.set_cons_succ] | simp only [List.set_cons_zero]))
    rw [← HCE.out]
    clear c0
    go_cut [] from 43 to 81 (fun wz => Hid (OwnM (fun _ => False) W.heap.size wz b m nw hd r mu Bk (i + 1) (i * 200010 + 1) ∧ Chg (fun k => W.heap.size ≤ k) W wz))
    case first =>
     have HXC : Hid (OwnM (fun i => i = cp) W.heap.size w4 b m nw hd r mu Bk i (i * 200010) ∧ Chg (fun k => W.heap.size ≤ k) W w4) := ⟨HX4.out.1.also HCP.out.1, HX4.out.2⟩
     have Cd : Chg (fun _ => False) w4 w4.drew := (Chg.refl _ _).drew
     have HCD : Hid (CAt w4.drew cp x) := HCP.out.1.kept Cd (fun x => x)
     cases tk with
     | true =>
      have HMT : Hid (∀ w, Chg (fun _ => False) w4 w → Calls Tryz.prog 13 #[.pointer (some ⟨m, 0, none⟩), .agg #[.int .u8 x.o.kd, .int .u64 x.o.k, .int .u64 x.o.v, .int .u64 x.o.od, .int .u64 x.o.hk, .bool x.r5, .int .i64 x.r6, .int .i64 x.r7, .slice x.kp x.o.ks.length x.kc, .int .u64 x.o.lo, .int .u64 x.o.hi], .agg #[.int .i64 x.B.e, .bool x.B.f, .int .u64 x.B.x, .bool x.B.d, .int .u64 x.B.h, .slice x.lp x.B.l.length x.lc, .int .u64 x.B.n]] w fun e w' => (∃ R, e = .returned (.bool R)) ∧ Hid (OwnT (fun i => i = cp) W.heap.size w' b m nw hd r mu Bk i (i * 200010) x.o x.B ∧ Chg (fun i => i = nw ∨ i = hd) w w')) := fun w cw => (((HXC.out.1.quiet cw).mtake HMU.out (by omega) HXO.out.1 HXO.out.2.1 (HOK.out w (HXC.out.2.trans cw (fun _ _ x => x) (fun _ _ x => x.elim))).1 (HOK.out w (HXC.out.2.trans cw (fun _ _ x => x) (fun _ _ x => x.elim))).2 HXO.out.2.2.2) : Calls Tryz.prog 13 #[.pointer (some ⟨m, 0, none⟩), .agg (opC x.o x.r5 x.r6 x.r7 x.kp x.kc), .agg (ansC x.B x.lp x.lc)] w _)
      go_upto_region 12 with fail
      have hS0 : (fun w' => w'.cell? ⟨b, 0, none⟩ = some (.pointer (some ⟨m, 0, none⟩)) ∧ w'.cell? ⟨cp, 1, none⟩ = some (.int .u8 x.o.kd) ∧ w'.cell? ⟨cp, 2, none⟩ = some (.int .u64 x.o.k) ∧ w'.cell? ⟨cp, 3, none⟩ = some (.int .u64 x.o.v) ∧ w'.cell? ⟨cp, 4, none⟩ = some (.int .u64 x.o.od) ∧ w'.cell? ⟨cp, 5, none⟩ = some (.int .u64 x.o.hk) ∧ w'.cell? ⟨cp, 6, none⟩ = some (.bool x.r5) ∧ w'.cell? ⟨cp, 7, none⟩ = some (.int .i64 x.r6) ∧ w'.cell? ⟨cp, 8, none⟩ = some (.int .i64 x.r7) ∧ w'.cell? ⟨cp, 9, none⟩ = some (.slice x.kp x.o.ks.length x.kc) ∧ w'.cell? ⟨cp, 10, none⟩ = some (.int .u64 x.o.lo) ∧ w'.cell? ⟨cp, 11, none⟩ = some (.int .u64 x.o.hi) ∧ w'.cell? ⟨cp, 12, none⟩ = some (.int .i64 x.B.e) ∧ w'.cell? ⟨cp, 13, none⟩ = some (.bool x.B.f) ∧ w'.cell? ⟨cp, 14, none⟩ = some (.int .u64 x.B.x) ∧ w'.cell? ⟨cp, 15, none⟩ = some (.bool x.B.d) ∧ w'.cell? ⟨cp, 16, none⟩ = some (.int .u64 x.B.h) ∧ w'.cell? ⟨cp, 17, none⟩ = some (.slice x.lp x.B.l.length x.lc) ∧ w'.cell? ⟨cp, 18, none⟩ = some (.int .u64 x.B.n)) w4.drew := ⟨cell_of (HXC.out.1.quiet Cd).both 0, cell_of HCD.out 1, cell_of HCD.out 2, cell_of HCD.out 3, cell_of HCD.out 4, cell_of HCD.out 5, cell_of HCD.out 6, cell_of HCD.out 7, cell_of HCD.out 8, cell_of HCD.out 9, cell_of HCD.out 10, cell_of HCD.out 11, cell_of HCD.out 12, cell_of HCD.out 13, cell_of HCD.out 14, cell_of HCD.out 15, cell_of HCD.out 16, cell_of HCD.out 17, cell_of HCD.out 18⟩
      refine wp_region_held_drew (S := (fun w' => w'.cell? ⟨b, 0, none⟩ = some (.pointer (some ⟨m, 0, none⟩)) ∧ w'.cell? ⟨cp, 1, none⟩ = some (.int .u8 x.o.kd) ∧ w'.cell? ⟨cp, 2, none⟩ = some (.int .u64 x.o.k) ∧ w'.cell? ⟨cp, 3, none⟩ = some (.int .u64 x.o.v) ∧ w'.cell? ⟨cp, 4, none⟩ = some (.int .u64 x.o.od) ∧ w'.cell? ⟨cp, 5, none⟩ = some (.int .u64 x.o.hk) ∧ w'.cell? ⟨cp, 6, none⟩ = some (.bool x.r5) ∧ w'.cell? ⟨cp, 7, none⟩ = some (.int .i64 x.r6) ∧ w'.cell? ⟨cp, 8, none⟩ = some (.int .i64 x.r7) ∧ w'.cell? ⟨cp, 9, none⟩ = some (.slice x.kp x.o.ks.length x.kc) ∧ w'.cell? ⟨cp, 10, none⟩ = some (.int .u64 x.o.lo) ∧ w'.cell? ⟨cp, 11, none⟩ = some (.int .u64 x.o.hi) ∧ w'.cell? ⟨cp, 12, none⟩ = some (.int .i64 x.B.e) ∧ w'.cell? ⟨cp, 13, none⟩ = some (.bool x.B.f) ∧ w'.cell? ⟨cp, 14, none⟩ = some (.int .u64 x.B.x) ∧ w'.cell? ⟨cp, 15, none⟩ = some (.bool x.B.d) ∧ w'.cell? ⟨cp, 16, none⟩ = some (.int .u64 x.B.h) ∧ w'.cell? ⟨cp, 17, none⟩ = some (.slice x.lp x.B.l.length x.lc) ∧ w'.cell? ⟨cp, 18, none⟩ = some (.int .u64 x.B.n))) (by kernel_rfl) (hS0) ?_
      intro hHeld
      refine wT (v := ?_) 0 rfl (by rfl) ?_ hHeld ?_
      rotate_left
      ·intro w hSw
       try dsimp only at hSw
       go_simp
       try with_reducible rfl
      try simp only [Act.put, lj]
      refine wT (v := ?_) 1 rfl (by rfl) ?_ hHeld ?_
      rotate_left
      ·intro w hSw
       try dsimp only at hSw
       go_simp
       try with_reducible rfl
      try simp only [Act.put, lj]
      refine wT (v := ?_) 2 rfl (by rfl) ?_ hHeld ?_
      rotate_left
      ·intro w hSw
       try dsimp only at hSw
       go_simp
       try with_reducible rfl
      try simp only [Act.put, lj]
      refine wT (v := ?_) 3 rfl (by rfl) ?_ hHeld ?_
      rotate_left
      ·intro w hSw
       try dsimp only at hSw
       go_simp
       try with_reducible rfl
      try simp only [Act.put, lj]
      refine wT (v := ?_) 4 rfl (by rfl) ?_ hHeld ?_
      rotate_left
      ·intro w hSw
       try dsimp only at hSw
       go_simp
       try with_reducible rfl
      try simp only [Act.put, lj]
      refine wT (v := ?_) 5 rfl (by rfl) ?_ hHeld ?_
      rotate_left
      ·intro w hSw
       try dsimp only at hSw
       go_simp
       try with_reducible rfl
      try simp only [Act.put, lj]
      refine wT (v := ?_) 6 rfl (by rfl) ?_ hHeld ?_
      rotate_left
      ·intro w hSw
       try dsimp only at hSw
       go_simp
       try with_reducible rfl
      try simp only [Act.put, lj]
      refine wT (v := ?_) 7 rfl (by rfl) ?_ hHeld ?_
      rotate_left
      ·intro w hSw
       try dsimp only at hSw
       go_simp
       try with_reducible rfl
      try simp only [Act.put, lj]
      refine wR 8 rfl (fun KK hKK => ?_)
      go_simp
      refine (HMT.out _ Cd).mono ?_
      rintro e w5 ⟨⟨R, rfl⟩, HT5⟩
      have HC5 : Hid (CAt w5 cp x) := HCD.out.kept HT5.out.2 (fun e => by have := HLT.out; omega)
      have hcc : (fun w' => w'.cell? ⟨b, 0, none⟩ = some (.pointer (some ⟨m, 0, none⟩)) ∧ w'.cell? ⟨cp, 1, none⟩ = some (.int .u8 x.o.kd) ∧ w'.cell? ⟨cp, 2, none⟩ = some (.int .u64 x.o.k) ∧ w'.cell? ⟨cp, 3, none⟩ = some (.int .u64 x.o.v) ∧ w'.cell? ⟨cp, 4, none⟩ = some (.int .u64 x.o.od) ∧ w'.cell? ⟨cp, 5, none⟩ = some (.int .u64 x.o.hk) ∧ w'.cell? ⟨cp, 6, none⟩ = some (.bool x.r5) ∧ w'.cell? ⟨cp, 7, none⟩ = some (.int .i64 x.r6) ∧ w'.cell? ⟨cp, 8, none⟩ = some (.int .i64 x.r7) ∧ w'.cell? ⟨cp, 9, none⟩ = some (.slice x.kp x.o.ks.length x.kc) ∧ w'.cell? ⟨cp, 10, none⟩ = some (.int .u64 x.o.lo) ∧ w'.cell? ⟨cp, 11, none⟩ = some (.int .u64 x.o.hi) ∧ w'.cell? ⟨cp, 12, none⟩ = some (.int .i64 x.B.e) ∧ w'.cell? ⟨cp, 13, none⟩ = some (.bool x.B.f) ∧ w'.cell? ⟨cp, 14, none⟩ = some (.int .u64 x.B.x) ∧ w'.cell? ⟨cp, 15, none⟩ = some (.bool x.B.d) ∧ w'.cell? ⟨cp, 16, none⟩ = some (.int .u64 x.B.h) ∧ w'.cell? ⟨cp, 17, none⟩ = some (.slice x.lp x.B.l.length x.lc) ∧ w'.cell? ⟨cp, 18, none⟩ = some (.int .u64 x.B.n)) w5 := ⟨cell_of HT5.out.1.both 0, cell_of HC5.out 1, cell_of HC5.out 2, cell_of HC5.out 3, cell_of HC5.out 4, cell_of HC5.out 5, cell_of HC5.out 6, cell_of HC5.out 7, cell_of HC5.out 8, cell_of HC5.out 9, cell_of HC5.out 10, cell_of HC5.out 11, cell_of HC5.out 12, cell_of HC5.out 13, cell_of HC5.out 14, cell_of HC5.out 15, cell_of HC5.out 16, cell_of HC5.out 17, cell_of HC5.out 18⟩
      refine hKK.out _ _ ?_ (fun hHeld => ?_)
      ·exact hcc
      clear hKK KK
      try simp only [Act.put, lj]
      refine wpAnyH_done (by kernel_rfl) ?_ _
      go_simp
      clear HMT hS0 hHeld hcc
      have HG5 : Hid (Chg (fun k => W.heap.size ≤ k) W w5) := HXC.out.2.trans (Cd.mono (fun _ _ x => x.elim) |>.trans HT5.out.2 (fun _ _ x => x) (fun _ _ x => x)) (fun _ _ x => x) (fun i _ e => by have := HLB.out; rcases e with e | e <;> omega)
      have Ce : Chg (fun _ => False) w5 w5.drew := (Chg.refl _ _).drew
      have HRT : Hid (∀ w, Chg (fun _ => False) w5 w → Calls Tryz.prog 14 #[.pointer (some ⟨r, 0, none⟩), .agg #[.int .u8 x.o.kd, .int .u64 x.o.k, .int .u64 x.o.v, .int .u64 x.o.od, .int .u64 x.o.hk, .bool x.r5, .int .i64 x.r6, .int .i64 x.r7, .slice x.kp x.o.ks.length x.kc, .int .u64 x.o.lo, .int .u64 x.o.hi], .agg #[.int .i64 x.B.e, .bool x.B.f, .int .u64 x.B.x, .bool x.B.d, .int .u64 x.B.h, .slice x.lp x.B.l.length x.lc, .int .u64 x.B.n]] w fun e w' => (∃ R, e = .returned (.bool R)) ∧ Hid (OwnM (fun i => i = cp) W.heap.size w' b m nw hd r mu Bk (i + 1) (i * 200010) ∧ Chg (fun i => i = r) w w')) := fun w cw => (((HT5.out.1.quiet cw).rtake HMU.out (by omega) HXO.out.1 HXO.out.2.1 (HOK.out w (HG5.out.trans cw (fun _ _ x => x) (fun _ _ x => x.elim))).1 (HOK.out w (HG5.out.trans cw (fun _ _ x => x) (fun _ _ x => x.elim))).2 HXO.out.2.2.2) : Calls Tryz.prog 14 #[.pointer (some ⟨r, 0, none⟩), .agg (opC x.o x.r5 x.r6 x.r7 x.kp x.kc), .agg (ansC x.B x.lp x.lc)] w _)
      go_upto_region 13 with fail
      have hS1 : (fun w' => w'.cell? ⟨b, 1, none⟩ = some (.pointer (some ⟨r, 0, none⟩)) ∧ w'.cell? ⟨cp, 1, none⟩ = some (.int .u8 x.o.kd) ∧ w'.cell? ⟨cp, 2, none⟩ = some (.int .u64 x.o.k) ∧ w'.cell? ⟨cp, 3, none⟩ = some (.int .u64 x.o.v) ∧ w'.cell? ⟨cp, 4, none⟩ = some (.int .u64 x.o.od) ∧ w'.cell? ⟨cp, 5, none⟩ = some (.int .u64 x.o.hk) ∧ w'.cell? ⟨cp, 6, none⟩ = some (.bool x.r5) ∧ w'.cell? ⟨cp, 7, none⟩ = some (.int .i64 x.r6) ∧ w'.cell? ⟨cp, 8, none⟩ = some (.int .i64 x.r7) ∧ w'.cell? ⟨cp, 9, none⟩ = some (.slice x.kp x.o.ks.length x.kc) ∧ w'.cell? ⟨cp, 10, none⟩ = some (.int .u64 x.o.lo) ∧ w'.cell? ⟨cp, 11, none⟩ = some (.int .u64 x.o.hi) ∧ w'.cell? ⟨cp, 12, none⟩ = some (.int .i64 x.B.e) ∧ w'.cell? ⟨cp, 13, none⟩ = some (.bool x.B.f) ∧ w'.cell? ⟨cp, 14, none⟩ = some (.int .u64 x.B.x) ∧ w'.cell? ⟨cp, 15, none⟩ = some (.bool x.B.d) ∧ w'.cell? ⟨cp, 16, none⟩ = some (.int .u64 x.B.h) ∧ w'.cell? ⟨cp, 17, none⟩ = some (.slice x.lp x.B.l.length x.lc) ∧ w'.cell? ⟨cp, 18, none⟩ = some (.int .u64 x.B.n)) w5.drew := ⟨cell_of (HT5.out.1.quiet Ce).both 1, cell_of (HC5.out.kept Ce (fun x => x)) 1, cell_of (HC5.out.kept Ce (fun x => x)) 2, cell_of (HC5.out.kept Ce (fun x => x)) 3, cell_of (HC5.out.kept Ce (fun x => x)) 4, cell_of (HC5.out.kept Ce (fun x => x)) 5, cell_of (HC5.out.kept Ce (fun x => x)) 6, cell_of (HC5.out.kept Ce (fun x => x)) 7, cell_of (HC5.out.kept Ce (fun x => x)) 8, cell_of (HC5.out.kept Ce (fun x => x)) 9, cell_of (HC5.out.kept Ce (fun x => x)) 10, cell_of (HC5.out.kept Ce (fun x => x)) 11, cell_of (HC5.out.kept Ce (fun x => x)) 12, cell_of (HC5.out.kept Ce (fun x => x)) 13, cell_of (HC5.out.kept Ce (fun x => x)) 14, cell_of (HC5.out.kept Ce (fun x => x)) 15, cell_of (HC5.out.kept Ce (fun x => x)) 16, cell_of (HC5.out.kept Ce (fun x => x)) 17, cell_of (HC5.out.kept Ce (fun x => x)) 18⟩
      refine wp_region_held_drew (S := (fun w' => w'.cell? ⟨b, 1, none⟩ = some (.pointer (some ⟨r, 0, none⟩)) ∧ w'.cell? ⟨cp, 1, none⟩ = some (.int .u8 x.o.kd) ∧ w'.cell? ⟨cp, 2, none⟩ = some (.int .u64 x.o.k) ∧ w'.cell? ⟨cp, 3, none⟩ = some (.int .u64 x.o.v) ∧ w'.cell? ⟨cp, 4, none⟩ = some (.int .u64 x.o.od) ∧ w'.cell? ⟨cp, 5, none⟩ = some (.int .u64 x.o.hk) ∧ w'.cell? ⟨cp, 6, none⟩ = some (.bool x.r5) ∧ w'.cell? ⟨cp, 7, none⟩ = some (.int .i64 x.r6) ∧ w'.cell? ⟨cp, 8, none⟩ = some (.int .i64 x.r7) ∧ w'.cell? ⟨cp, 9, none⟩ = some (.slice x.kp x.o.ks.length x.kc) ∧ w'.cell? ⟨cp, 10, none⟩ = some (.int .u64 x.o.lo) ∧ w'.cell? ⟨cp, 11, none⟩ = some (.int .u64 x.o.hi) ∧ w'.cell? ⟨cp, 12, none⟩ = some (.int .i64 x.B.e) ∧ w'.cell? ⟨cp, 13, none⟩ = some (.bool x.B.f) ∧ w'.cell? ⟨cp, 14, none⟩ = some (.int .u64 x.B.x) ∧ w'.cell? ⟨cp, 15, none⟩ = some (.bool x.B.d) ∧ w'.cell? ⟨cp, 16, none⟩ = some (.int .u64 x.B.h) ∧ w'.cell? ⟨cp, 17, none⟩ = some (.slice x.lp x.B.l.length x.lc) ∧ w'.cell? ⟨cp, 18, none⟩ = some (.int .u64 x.B.n))) (by kernel_rfl) (hS1) ?_
      intro hHeld
      refine wT (v := ?_) 0 rfl (by rfl) ?_ hHeld ?_
      rotate_left
      ·intro w hSw
       try dsimp only at hSw
       go_simp
       try with_reducible rfl
      try simp only [Act.put, lj]
      refine wT (v := ?_) 1 rfl (by rfl) ?_ hHeld ?_
      rotate_left
      ·intro w hSw
       try dsimp only at hSw
       go_simp
       try with_reducible rfl
      try simp only [Act.put, lj]
      refine wT (v := ?_) 2 rfl (by rfl) ?_ hHeld ?_
      rotate_left
      ·intro w hSw
       try dsimp only at hSw
       go_simp
       try with_reducible rfl
      try simp only [Act.put, lj]
      refine wT (v := ?_) 3 rfl (by rfl) ?_ hHeld ?_
      rotate_left
      ·intro w hSw
       try dsimp only at hSw
       go_simp
       try with_reducible rfl
      try simp only [Act.put, lj]
      refine wT (v := ?_) 4 rfl (by rfl) ?_ hHeld ?_
      rotate_left
      ·intro w hSw
       try dsimp only at hSw
       go_simp
       try with_reducible rfl
      try simp only [Act.put, lj]
      refine wT (v := ?_) 5 rfl (by rfl) ?_ hHeld ?_
      rotate_left
      ·intro w hSw
       try dsimp only at hSw
       go_simp
       try with_reducible rfl
      try simp only [Act.put, lj]
      refine wT (v := ?_) 6 rfl (by rfl) ?_ hHeld ?_
      rotate_left
      ·intro w hSw
       try dsimp only at hSw
       go_simp
       try with_reducible rfl
      try simp only [Act.put, lj]
      refine wT (v := ?_) 7 rfl (by rfl) ?_ hHeld ?_
      rotate_left
      ·intro w hSw
       try dsimp only at hSw
       go_simp
       try with_reducible rfl
      try simp only [Act.put, lj]
      refine wR 8 rfl (fun KK hKK => ?_)
      go_simp
      refine (HRT.out _ Ce).mono ?_
      rintro e w6 ⟨⟨R2, rfl⟩, HT6⟩
      have HC6 : Hid (CAt w6 cp x) := (HC5.out.kept Ce (fun x => x)).kept HT6.out.2 (fun e => by have := HLT.out; omega)
      have hcc : (fun w' => w'.cell? ⟨b, 1, none⟩ = some (.pointer (some ⟨r, 0, none⟩)) ∧ w'.cell? ⟨cp, 1, none⟩ = some (.int .u8 x.o.kd) ∧ w'.cell? ⟨cp, 2, none⟩ = some (.int .u64 x.o.k) ∧ w'.cell? ⟨cp, 3, none⟩ = some (.int .u64 x.o.v) ∧ w'.cell? ⟨cp, 4, none⟩ = some (.int .u64 x.o.od) ∧ w'.cell? ⟨cp, 5, none⟩ = some (.int .u64 x.o.hk) ∧ w'.cell? ⟨cp, 6, none⟩ = some (.bool x.r5) ∧ w'.cell? ⟨cp, 7, none⟩ = some (.int .i64 x.r6) ∧ w'.cell? ⟨cp, 8, none⟩ = some (.int .i64 x.r7) ∧ w'.cell? ⟨cp, 9, none⟩ = some (.slice x.kp x.o.ks.length x.kc) ∧ w'.cell? ⟨cp, 10, none⟩ = some (.int .u64 x.o.lo) ∧ w'.cell? ⟨cp, 11, none⟩ = some (.int .u64 x.o.hi) ∧ w'.cell? ⟨cp, 12, none⟩ = some (.int .i64 x.B.e) ∧ w'.cell? ⟨cp, 13, none⟩ = some (.bool x.B.f) ∧ w'.cell? ⟨cp, 14, none⟩ = some (.int .u64 x.B.x) ∧ w'.cell? ⟨cp, 15, none⟩ = some (.bool x.B.d) ∧ w'.cell? ⟨cp, 16, none⟩ = some (.int .u64 x.B.h) ∧ w'.cell? ⟨cp, 17, none⟩ = some (.slice x.lp x.B.l.length x.lc) ∧ w'.cell? ⟨cp, 18, none⟩ = some (.int .u64 x.B.n)) w6 := ⟨cell_of HT6.out.1.both 1, cell_of HC6.out 1, cell_of HC6.out 2, cell_of HC6.out 3, cell_of HC6.out 4, cell_of HC6.out 5, cell_of HC6.out 6, cell_of HC6.out 7, cell_of HC6.out 8, cell_of HC6.out 9, cell_of HC6.out 10, cell_of HC6.out 11, cell_of HC6.out 12, cell_of HC6.out 13, cell_of HC6.out 14, cell_of HC6.out 15, cell_of HC6.out 16, cell_of HC6.out 17, cell_of HC6.out 18⟩
      refine hKK.out _ _ ?_ (fun hHeld => ?_)
      ·exact hcc
      clear hKK KK
      try simp only [Act.put, lj]
      refine wpAnyH_done (by kernel_rfl) ?_ _
      go_simp
      go_wp2_with fail
      go_meet
      case rel => exact ⟨HT6.out.1.weak (fun _ x => x.elim) (Nat.le_refl _) (by omega), (HG5.out.trans Ce (fun _ _ x => x) (fun _ _ x => x.elim)).trans HT6.out.2 (fun _ _ x => x) (fun i _ e => by have := HLB.out; omega)⟩
     | false =>
      have HRD : Hid (∀ w, Chg (fun _ => False) w4 w → Calls Tryz.prog 15 #[.pointer (some ⟨r, 0, none⟩), .agg #[.int .u8 x.o.kd, .int .u64 x.o.k, .int .u64 x.o.v, .int .u64 x.o.od, .int .u64 x.o.hk, .bool x.r5, .int .i64 x.r6, .int .i64 x.r7, .slice x.kp x.o.ks.length x.kc, .int .u64 x.o.lo, .int .u64 x.o.hi], .int .u64 x.hn] w fun e w' => (∃ u, e = .returned u) ∧ Hid (OwnD (fun i => i = cp) W.heap.size w' b m nw hd r mu Bk i (i * 200010) x.o x.hn ∧ Chg (fun i => i = r) w w')) := fun w cw => (((HXC.out.1.quiet cw).rdo HMU.out (by omega) HXO.out.1 HXO.out.2.2.1 (HOK.out w (HXC.out.2.trans cw (fun _ _ x => x) (fun _ _ x => x.elim))).1) : Calls Tryz.prog 15 #[.pointer (some ⟨r, 0, none⟩), .agg (opC x.o x.r5 x.r6 x.r7 x.kp x.kc), .int .u64 x.hn] w _)
      go_upto_region 14 with fail
      have hS0 : (fun w' => w'.cell? ⟨b, 1, none⟩ = some (.pointer (some ⟨r, 0, none⟩)) ∧ w'.cell? ⟨cp, 1, none⟩ = some (.int .u8 x.o.kd) ∧ w'.cell? ⟨cp, 2, none⟩ = some (.int .u64 x.o.k) ∧ w'.cell? ⟨cp, 3, none⟩ = some (.int .u64 x.o.v) ∧ w'.cell? ⟨cp, 4, none⟩ = some (.int .u64 x.o.od) ∧ w'.cell? ⟨cp, 5, none⟩ = some (.int .u64 x.o.hk) ∧ w'.cell? ⟨cp, 6, none⟩ = some (.bool x.r5) ∧ w'.cell? ⟨cp, 7, none⟩ = some (.int .i64 x.r6) ∧ w'.cell? ⟨cp, 8, none⟩ = some (.int .i64 x.r7) ∧ w'.cell? ⟨cp, 9, none⟩ = some (.slice x.kp x.o.ks.length x.kc) ∧ w'.cell? ⟨cp, 10, none⟩ = some (.int .u64 x.o.lo) ∧ w'.cell? ⟨cp, 11, none⟩ = some (.int .u64 x.o.hi) ∧ w'.cell? ⟨cp, 19, none⟩ = some (.int .u64 x.hn)) w4.drew := ⟨cell_of (HXC.out.1.quiet Cd).both 1, cell_of HCD.out 1, cell_of HCD.out 2, cell_of HCD.out 3, cell_of HCD.out 4, cell_of HCD.out 5, cell_of HCD.out 6, cell_of HCD.out 7, cell_of HCD.out 8, cell_of HCD.out 9, cell_of HCD.out 10, cell_of HCD.out 11, cell_of HCD.out 19⟩
      refine wp_region_held_drew (S := (fun w' => w'.cell? ⟨b, 1, none⟩ = some (.pointer (some ⟨r, 0, none⟩)) ∧ w'.cell? ⟨cp, 1, none⟩ = some (.int .u8 x.o.kd) ∧ w'.cell? ⟨cp, 2, none⟩ = some (.int .u64 x.o.k) ∧ w'.cell? ⟨cp, 3, none⟩ = some (.int .u64 x.o.v) ∧ w'.cell? ⟨cp, 4, none⟩ = some (.int .u64 x.o.od) ∧ w'.cell? ⟨cp, 5, none⟩ = some (.int .u64 x.o.hk) ∧ w'.cell? ⟨cp, 6, none⟩ = some (.bool x.r5) ∧ w'.cell? ⟨cp, 7, none⟩ = some (.int .i64 x.r6) ∧ w'.cell? ⟨cp, 8, none⟩ = some (.int .i64 x.r7) ∧ w'.cell? ⟨cp, 9, none⟩ = some (.slice x.kp x.o.ks.length x.kc) ∧ w'.cell? ⟨cp, 10, none⟩ = some (.int .u64 x.o.lo) ∧ w'.cell? ⟨cp, 11, none⟩ = some (.int .u64 x.o.hi) ∧ w'.cell? ⟨cp, 19, none⟩ = some (.int .u64 x.hn))) (by kernel_rfl) (hS0) ?_
      intro hHeld
      refine wT (v := ?_) 0 rfl (by rfl) ?_ hHeld ?_
      rotate_left
      ·intro w hSw
       try dsimp only at hSw
       go_simp
       try with_reducible rfl
      try simp only [Act.put, lj]
      refine wT (v := ?_) 1 rfl (by rfl) ?_ hHeld ?_
      rotate_left
      ·intro w hSw
       try dsimp only at hSw
       go_simp
       try with_reducible rfl
      try simp only [Act.put, lj]
      refine wT (v := ?_) 2 rfl (by rfl) ?_ hHeld ?_
      rotate_left
      ·intro w hSw
       try dsimp only at hSw
       go_simp
       try with_reducible rfl
      try simp only [Act.put, lj]
      refine wT (v := ?_) 3 rfl (by rfl) ?_ hHeld ?_
      rotate_left
      ·intro w hSw
       try dsimp only at hSw
       go_simp
       try with_reducible rfl
      try simp only [Act.put, lj]
      refine wT (v := ?_) 4 rfl (by rfl) ?_ hHeld ?_
      rotate_left
      ·intro w hSw
       try dsimp only at hSw
       go_simp
       try with_reducible rfl
      try simp only [Act.put, lj]
      refine wT (v := ?_) 5 rfl (by rfl) ?_ hHeld ?_
      rotate_left
      ·intro w hSw
       try dsimp only at hSw
       go_simp
       try with_reducible rfl
      try simp only [Act.put, lj]
      refine wT (v := ?_) 6 rfl (by rfl) ?_ hHeld ?_
      rotate_left
      ·intro w hSw
       try dsimp only at hSw
       go_simp
       try with_reducible rfl
      try simp only [Act.put, lj]
      refine wT (v := ?_) 7 rfl (by rfl) ?_ hHeld ?_
      rotate_left
      ·intro w hSw
       try dsimp only at hSw
       go_simp
       try with_reducible rfl
      try simp only [Act.put, lj]
      refine wR 8 rfl (fun KK hKK => ?_)
      go_simp
      refine (HRD.out _ Cd).mono ?_
      rintro e w5 ⟨⟨u9, rfl⟩, HT5⟩
      have HC5 : Hid (CAt w5 cp x) := HCD.out.kept HT5.out.2 (fun e => by have := HLT.out; omega)
      have hcc : (fun w' => w'.cell? ⟨b, 1, none⟩ = some (.pointer (some ⟨r, 0, none⟩)) ∧ w'.cell? ⟨cp, 1, none⟩ = some (.int .u8 x.o.kd) ∧ w'.cell? ⟨cp, 2, none⟩ = some (.int .u64 x.o.k) ∧ w'.cell? ⟨cp, 3, none⟩ = some (.int .u64 x.o.v) ∧ w'.cell? ⟨cp, 4, none⟩ = some (.int .u64 x.o.od) ∧ w'.cell? ⟨cp, 5, none⟩ = some (.int .u64 x.o.hk) ∧ w'.cell? ⟨cp, 6, none⟩ = some (.bool x.r5) ∧ w'.cell? ⟨cp, 7, none⟩ = some (.int .i64 x.r6) ∧ w'.cell? ⟨cp, 8, none⟩ = some (.int .i64 x.r7) ∧ w'.cell? ⟨cp, 9, none⟩ = some (.slice x.kp x.o.ks.length x.kc) ∧ w'.cell? ⟨cp, 10, none⟩ = some (.int .u64 x.o.lo) ∧ w'.cell? ⟨cp, 11, none⟩ = some (.int .u64 x.o.hi) ∧ w'.cell? ⟨cp, 19, none⟩ = some (.int .u64 x.hn)) w5 := ⟨cell_of HT5.out.1.both 1, cell_of HC5.out 1, cell_of HC5.out 2, cell_of HC5.out 3, cell_of HC5.out 4, cell_of HC5.out 5, cell_of HC5.out 6, cell_of HC5.out 7, cell_of HC5.out 8, cell_of HC5.out 9, cell_of HC5.out 10, cell_of HC5.out 11, cell_of HC5.out 19⟩
      refine hKK.out _ _ ?_ (fun hHeld => ?_)
      ·exact hcc
      clear hKK KK
      try simp only [Act.put, lj]
      refine wpAnyH_done (by kernel_rfl) ?_ _
      go_simp
      clear HRD hS0 hHeld hcc
      have HG5 : Hid (Chg (fun k => W.heap.size ≤ k) W w5) := HXC.out.2.trans (Cd.mono (fun _ _ x => x.elim) |>.trans HT5.out.2 (fun _ _ x => x) (fun _ _ x => x)) (fun _ _ x => x) (fun i _ e => by have := HLB.out; omega)
      have Ce : Chg (fun _ => False) w5 w5.drew := (Chg.refl _ _).drew
      have HMD : Hid (∀ w, Chg (fun _ => False) w5 w → Calls Tryz.prog 17 #[.pointer (some ⟨m, 0, none⟩), .agg #[.int .u8 x.o.kd, .int .u64 x.o.k, .int .u64 x.o.v, .int .u64 x.o.od, .int .u64 x.o.hk, .bool x.r5, .int .i64 x.r6, .int .i64 x.r7, .slice x.kp x.o.ks.length x.kc, .int .u64 x.o.lo, .int .u64 x.o.hi], .int .u64 x.hn] w fun e w' => (∃ T pt ct, e = .returned (.agg (ansC T pt ct)) ∧ Hid (T.l.length ≤ 8796093022000 ∧ OPairs w' pt ct T.l ∧ ToldV (fun i => i = cp) W.heap.size w' b m nw hd r mu Bk (i + 1) (i * 200010) (.slice pt T.l.length ct))) ∧ Hid (Chg (fun i => i = nw ∨ i = hd) w w')) := fun w cw => (((HT5.out.1.quiet cw).mdo HMU.out (by omega) HXO.out.1 HXO.out.2.2.1 (HOK.out w (HG5.out.trans cw (fun _ _ x => x) (fun _ _ x => x.elim))).1) : Calls Tryz.prog 17 #[.pointer (some ⟨m, 0, none⟩), .agg (opC x.o x.r5 x.r6 x.r7 x.kp x.kc), .int .u64 x.hn] w _)
      go_upto_region 15 with fail
      have hS1 : (fun w' => w'.cell? ⟨b, 0, none⟩ = some (.pointer (some ⟨m, 0, none⟩)) ∧ w'.cell? ⟨cp, 1, none⟩ = some (.int .u8 x.o.kd) ∧ w'.cell? ⟨cp, 2, none⟩ = some (.int .u64 x.o.k) ∧ w'.cell? ⟨cp, 3, none⟩ = some (.int .u64 x.o.v) ∧ w'.cell? ⟨cp, 4, none⟩ = some (.int .u64 x.o.od) ∧ w'.cell? ⟨cp, 5, none⟩ = some (.int .u64 x.o.hk) ∧ w'.cell? ⟨cp, 6, none⟩ = some (.bool x.r5) ∧ w'.cell? ⟨cp, 7, none⟩ = some (.int .i64 x.r6) ∧ w'.cell? ⟨cp, 8, none⟩ = some (.int .i64 x.r7) ∧ w'.cell? ⟨cp, 9, none⟩ = some (.slice x.kp x.o.ks.length x.kc) ∧ w'.cell? ⟨cp, 10, none⟩ = some (.int .u64 x.o.lo) ∧ w'.cell? ⟨cp, 11, none⟩ = some (.int .u64 x.o.hi) ∧ w'.cell? ⟨cp, 19, none⟩ = some (.int .u64 x.hn)) w5.drew := ⟨cell_of (HT5.out.1.quiet Ce).both 0, cell_of (HC5.out.kept Ce (fun x => x)) 1, cell_of (HC5.out.kept Ce (fun x => x)) 2, cell_of (HC5.out.kept Ce (fun x => x)) 3, cell_of (HC5.out.kept Ce (fun x => x)) 4, cell_of (HC5.out.kept Ce (fun x => x)) 5, cell_of (HC5.out.kept Ce (fun x => x)) 6, cell_of (HC5.out.kept Ce (fun x => x)) 7, cell_of (HC5.out.kept Ce (fun x => x)) 8, cell_of (HC5.out.kept Ce (fun x => x)) 9, cell_of (HC5.out.kept Ce (fun x => x)) 10, cell_of (HC5.out.kept Ce (fun x => x)) 11, cell_of (HC5.out.kept Ce (fun x => x)) 19⟩
      refine wp_region_held_drew (S := (fun w' => w'.cell? ⟨b, 0, none⟩ = some (.pointer (some ⟨m, 0, none⟩)) ∧ w'.cell? ⟨cp, 1, none⟩ = some (.int .u8 x.o.kd) ∧ w'.cell? ⟨cp, 2, none⟩ = some (.int .u64 x.o.k) ∧ w'.cell? ⟨cp, 3, none⟩ = some (.int .u64 x.o.v) ∧ w'.cell? ⟨cp, 4, none⟩ = some (.int .u64 x.o.od) ∧ w'.cell? ⟨cp, 5, none⟩ = some (.int .u64 x.o.hk) ∧ w'.cell? ⟨cp, 6, none⟩ = some (.bool x.r5) ∧ w'.cell? ⟨cp, 7, none⟩ = some (.int .i64 x.r6) ∧ w'.cell? ⟨cp, 8, none⟩ = some (.int .i64 x.r7) ∧ w'.cell? ⟨cp, 9, none⟩ = some (.slice x.kp x.o.ks.length x.kc) ∧ w'.cell? ⟨cp, 10, none⟩ = some (.int .u64 x.o.lo) ∧ w'.cell? ⟨cp, 11, none⟩ = some (.int .u64 x.o.hi) ∧ w'.cell? ⟨cp, 19, none⟩ = some (.int .u64 x.hn))) (by kernel_rfl) (hS1) ?_
      intro hHeld
      refine wT (v := ?_) 0 rfl (by rfl) ?_ hHeld ?_
      rotate_left
      ·intro w hSw
       try dsimp only at hSw
       go_simp
       try with_reducible rfl
      try simp only [Act.put, lj]
      refine wT (v := ?_) 1 rfl (by rfl) ?_ hHeld ?_
      rotate_left
      ·intro w hSw
       try dsimp only at hSw
       go_simp
       try with_reducible rfl
      try simp only [Act.put, lj]
      refine wT (v := ?_) 2 rfl (by rfl) ?_ hHeld ?_
      rotate_left
      ·intro w hSw
       try dsimp only at hSw
       go_simp
       try with_reducible rfl
      try simp only [Act.put, lj]
      refine wT (v := ?_) 3 rfl (by rfl) ?_ hHeld ?_
      rotate_left
      ·intro w hSw
       try dsimp only at hSw
       go_simp
       try with_reducible rfl
      try simp only [Act.put, lj]
      refine wT (v := ?_) 4 rfl (by rfl) ?_ hHeld ?_
      rotate_left
      ·intro w hSw
       try dsimp only at hSw
       go_simp
       try with_reducible rfl
      try simp only [Act.put, lj]
      refine wT (v := ?_) 5 rfl (by rfl) ?_ hHeld ?_
      rotate_left
      ·intro w hSw
       try dsimp only at hSw
       go_simp
       try with_reducible rfl
      try simp only [Act.put, lj]
      refine wT (v := ?_) 6 rfl (by rfl) ?_ hHeld ?_
      rotate_left
      ·intro w hSw
       try dsimp only at hSw
       go_simp
       try with_reducible rfl
      try simp only [Act.put, lj]
      refine wT (v := ?_) 7 rfl (by rfl) ?_ hHeld ?_
      rotate_left
      ·intro w hSw
       try dsimp only at hSw
       go_simp
       try with_reducible rfl
      try simp only [Act.put, lj]
      refine wT (v := ?_) 8 rfl (by rfl) ?_ hHeld ?_
      rotate_left
      ·intro w hSw
       try dsimp only at hSw
       go_simp
       try with_reducible rfl
      try simp only [Act.put, lj]
      refine wR 9 rfl (fun KK hKK => ?_)
      go_simp
      refine (HMD.out _ Ce).mono ?_
      rintro e w6 ⟨⟨T, pt, ct, rfl, HTV⟩, HT6⟩
      have HC6 : Hid (CAt w6 cp x) := (HC5.out.kept Ce (fun x => x)).kept HT6.out (fun e => by have := HLT.out; omega)
      have HTK := keepH (HTV.out.2.2.takeP HTV.out.1 HTV.out.2.1 (by omega))
      unfold ansC
      have hcc : (fun w' => w'.cell? ⟨b, 0, none⟩ = some (.pointer (some ⟨m, 0, none⟩)) ∧ w'.cell? ⟨cp, 1, none⟩ = some (.int .u8 x.o.kd) ∧ w'.cell? ⟨cp, 2, none⟩ = some (.int .u64 x.o.k) ∧ w'.cell? ⟨cp, 3, none⟩ = some (.int .u64 x.o.v) ∧ w'.cell? ⟨cp, 4, none⟩ = some (.int .u64 x.o.od) ∧ w'.cell? ⟨cp, 5, none⟩ = some (.int .u64 x.o.hk) ∧ w'.cell? ⟨cp, 6, none⟩ = some (.bool x.r5) ∧ w'.cell? ⟨cp, 7, none⟩ = some (.int .i64 x.r6) ∧ w'.cell? ⟨cp, 8, none⟩ = some (.int .i64 x.r7) ∧ w'.cell? ⟨cp, 9, none⟩ = some (.slice x.kp x.o.ks.length x.kc) ∧ w'.cell? ⟨cp, 10, none⟩ = some (.int .u64 x.o.lo) ∧ w'.cell? ⟨cp, 11, none⟩ = some (.int .u64 x.o.hi) ∧ w'.cell? ⟨cp, 19, none⟩ = some (.int .u64 x.hn)) w6 := ⟨cell_of HTV.out.2.2.both 0, cell_of HC6.out 1, cell_of HC6.out 2, cell_of HC6.out 3, cell_of HC6.out 4, cell_of HC6.out 5, cell_of HC6.out 6, cell_of HC6.out 7, cell_of HC6.out 8, cell_of HC6.out 9, cell_of HC6.out 10, cell_of HC6.out 11, cell_of HC6.out 19⟩
      refine hKK.out _ _ ?_ (fun hHeld => ?_)
      ·exact hcc
      clear hKK KK
      try simp only [Act.put, lj]
      refine wT (v := ?_) 10 rfl (by rfl) ?_ hHeld ?_
      rotate_left
      ·intro w hSw
       try dsimp only at hSw
       have hf5 := fld_5
       go_simp
       try with_reducible rfl
      try simp only [Act.put, lj]
      refine wR 11 rfl (fun KK hKK => ?_)
      go_simp
      refine HTK.out.mono ?_
      rintro e w7 ⟨rfl, hM7, hW7⟩
      have HM7 := keepH hM7
      have HW7 := keepH hW7
      have HC7 : Hid (CAt w7 cp x) := by (obtain ⟨G, hG1, hG2, hG3⟩ := hW7; exact HC6.out.kept hG1 (hG2 cp rfl))
      clear hM7 hW7
      have hcc : (fun w' => w'.cell? ⟨b, 0, none⟩ = some (.pointer (some ⟨m, 0, none⟩)) ∧ w'.cell? ⟨cp, 1, none⟩ = some (.int .u8 x.o.kd) ∧ w'.cell? ⟨cp, 2, none⟩ = some (.int .u64 x.o.k) ∧ w'.cell? ⟨cp, 3, none⟩ = some (.int .u64 x.o.v) ∧ w'.cell? ⟨cp, 4, none⟩ = some (.int .u64 x.o.od) ∧ w'.cell? ⟨cp, 5, none⟩ = some (.int .u64 x.o.hk) ∧ w'.cell? ⟨cp, 6, none⟩ = some (.bool x.r5) ∧ w'.cell? ⟨cp, 7, none⟩ = some (.int .i64 x.r6) ∧ w'.cell? ⟨cp, 8, none⟩ = some (.int .i64 x.r7) ∧ w'.cell? ⟨cp, 9, none⟩ = some (.slice x.kp x.o.ks.length x.kc) ∧ w'.cell? ⟨cp, 10, none⟩ = some (.int .u64 x.o.lo) ∧ w'.cell? ⟨cp, 11, none⟩ = some (.int .u64 x.o.hi) ∧ w'.cell? ⟨cp, 19, none⟩ = some (.int .u64 x.hn)) w7 := ⟨cell_of HM7.out.both 0, cell_of HC7.out 1, cell_of HC7.out 2, cell_of HC7.out 3, cell_of HC7.out 4, cell_of HC7.out 5, cell_of HC7.out 6, cell_of HC7.out 7, cell_of HC7.out 8, cell_of HC7.out 9, cell_of HC7.out 10, cell_of HC7.out 11, cell_of HC7.out 19⟩
      refine hKK.out _ _ ?_ (fun hHeld => ?_)
      ·exact hcc
      clear hKK KK
      try simp only [Act.put, lj]
      refine wpAnyH_done (by kernel_rfl) ?_ _
      go_simp
      go_wp2_with fail
      go_meet
      case rel => exact ⟨HM7.out.weak (fun _ x => x.elim) (Nat.le_refl _) (by omega), HW7.out.chg ((HG5.out.trans Ce (fun _ _ x => x) (fun _ _ x => x.elim)).trans HT6.out (fun _ _ x => x) (fun i _ e => by have := HLB.out; rcases e with e | e <;> omega))⟩
    case rest =>
     obtain ⟨wz, hwz⟩ : ∃ wz, wz = wc := ⟨_, rfl⟩
     rw [← hwz] at hcut ⊢
     clear hwz
     have HZ : Hid (OwnM (fun _ => False) W.heap.size wz b m nw hd r mu Bk (i + 1) (i * 200010 + 1) ∧ Chg (fun k => W.heap.size ≤ k) W wz) := hcut.out
     clear hcut HCP HB0 HX4 HW4 HC9 HR HOK HXO HLT HX HCE
     go_wp2_with fail
     go_loopw [10] (fun s10 wq => ∃ k : Nat, k ≤ 2 ∧ s10 = .int .i64 k ∧ Hid (OwnM (fun _ => False) W.heap.size wq b m nw hd r mu Bk (i + 1) (i * 200010 + 1 + k * 100000) ∧ Chg (fun k => W.heap.size ≤ k) W wq)) (fun s10 _ => 2 - (intOf s10).toNat)
     case atStart => exact ⟨0, by omega, rfl, HZ.out.1.weak (fun _ x => x) (Nat.le_refl _) (by omega), HZ.out.2⟩
     case round =>
      obtain ⟨k, hk, rfl, HK⟩ := hrel
      clear HZ
      by_cases hk2 : k < 2
      ·have t1 : (k : Int) < 2 := by omega
       have c0 : wr.cell? ⟨b, 0, none⟩ = some (.pointer (some ⟨m, 0, none⟩)) := cell_of HK.out.1.both 0
       have HCT := keepH (HK.out.1.content (by omega))
       go_wp2_with fail
       refine HCT.out.mono ?_
       rintro e wa ⟨⟨pa, ca, la, rfl, hla, hPa, hTa⟩, hCa⟩
       have HTA := keepH (hTa.takeP hla hPa (by omega))
       have HGA : Hid (Chg (fun k => W.heap.size ≤ k) W wa) := HK.out.2.trans hCa (fun _ _ x => x) (fun _ _ x => x.elim)
       obtain ⟨na, hna⟩ : ∃ n, n = la.length := ⟨_, rfl⟩
       rw [← hna] at HTA ⊢
       clear hna hla hPa hTa hCa HCT c0
       go_wp2_with fail
       refine HTA.out.mono ?_
       rintro e wb ⟨rfl, hMb, hWb⟩
       have HB : Hid (OwnM (fun _ => False) W.heap.size wb b m nw hd r mu Bk (i + 1) (i * 200010 + 1 + k * 100000 + 1) ∧ Chg (fun k => W.heap.size ≤ k) W wb) := ⟨hMb.weak (fun _ x => x) (Nat.le_refl _) (by omega), hWb.chg HGA.out⟩
       clear hMb hWb HTA HGA
       have c0 : wb.cell? ⟨b, 0, none⟩ = some (.pointer (some ⟨m, 0, none⟩)) := cell_of HB.out.1.both 0
       have HHT := keepH (HB.out.1.handles (by omega))
       go_wp2_with fail
       refine HHT.out.mono ?_
       rintro e wd ⟨⟨pd, cd, ld, rfl, hld, hPd, hTd⟩, hCd⟩
       have HTD := keepH (hTd.takeU hld hPd (by omega))
       have HGD : Hid (Chg (fun k => W.heap.size ≤ k) W wd) := HB.out.2.trans hCd (fun _ _ x => x) (fun _ _ x => x.elim)
       obtain ⟨nd, hnd⟩ : ∃ n, n = ld.length := ⟨_, rfl⟩
       rw [← hnd] at HTD ⊢
       clear hnd hld hPd hTd hCd HHT c0
       go_wp2_with fail
       refine HTD.out.mono ?_
       rintro e we ⟨rfl, hMe, hWe⟩
       have HE : Hid (OwnM (fun _ => False) W.heap.size we b m nw hd r mu Bk (i + 1) (i * 200010 + 1 + k * 100000 + 2) ∧ Chg (fun k => W.heap.size ≤ k) W we) := ⟨hMe.weak (fun _ x => x) (Nat.le_refl _) (by omega), hWe.chg HGD.out⟩
       clear hMe hWe HTD HGD
       have c1 : we.cell? ⟨b, 1, none⟩ = some (.pointer (some ⟨r, 0, none⟩)) := cell_of HE.out.1.both 1
       have HRH := keepH (HE.out.1.rhandles (by omega))
       go_wp2_with fail
       refine HRH.out.mono ?_
       rintro e wf ⟨⟨ph, ch, ss, rfl, hns, hks, hMf⟩, hCf⟩
       obtain ⟨E9, hE9⟩ : ∃ E9 : Nat → Prop, E9 = fun i => ss ≠ [] ∧ ∃ off, ph = some ⟨i, off, none⟩ := ⟨_, rfl⟩
       rw [← hE9] at hMf
       have HEE : Hid (∀ i, (ss ≠ [] ∧ ∃ off, ph = some ⟨i, off, none⟩) → E9 i) := by (rw [hE9]; exact fun i h => h)
       have HF : Hid (OwnM E9 W.heap.size wf b m nw hd r mu Bk (i + 1) (i * 200010 + 1 + k * 100000 + 2) ∧ KeysAt wf ph ss ∧ Chg (fun k => W.heap.size ≤ k) W wf) := ⟨hMf, hks, HE.out.2.trans hCf (fun _ _ x => x) (fun _ _ x => x.elim)⟩
       obtain ⟨ns, hns2⟩ : ∃ n, n = ss.length := ⟨_, rfl⟩
       rw [← hns2] at hns ⊢
       have HNS := keepH hns2
       clear hns2 hks hMf hCf hE9 HRH c1 HE HB HK
       go_wp2_with fail
       go_loopw [12] (fun s12 wq => ∃ j : Nat, j ≤ ns ∧ s12 = .int .i64 j ∧ Hid (OwnM E9 W.heap.size wq b m nw hd r mu Bk (i + 1) (i * 200010 + 1 + k * 100000 + 2 + j) ∧ KeysAt wq ph ss ∧ Chg (fun k => W.heap.size ≤ k) W wq)) (fun s12 _ => ns - (intOf s12).toNat)
       case atStart => exact ⟨0, Nat.zero_le _, rfl, HF.out.1, HF.out.2.1, HF.out.2.2⟩
       case round =>
        obtain ⟨j, hj, rfl, HJ⟩ := hrel
        clear HF
        by_cases hjn : j < ns
        ·have t2 : (j : Int) < (ns : Int) := by omega
         have t0 : (0 : Int) ≤ (j : Int) := by omega
         obtain ⟨key, hkey⟩ : ∃ z, ss[j]? = some z := ⟨ss[j]'(by have := HNS.out; omega), List.getElem?_eq_getElem _⟩
         obtain ⟨bh, oh, rfl, hk64, hcell⟩ : ∃ bh oh, ph = some ⟨bh, oh, none⟩ ∧ key < 18446744073709551616 ∧ wr.cell? ⟨bh, oh + j, none⟩ = some (.int .u64 key) := by
          rcases HJ.out.2.1 with e | ⟨bh, oh, e, _, hh⟩
          ·rw [e] at hkey; cases hkey
          ·exact ⟨bh, oh, e, (hh j key hkey).1, (hh j key hkey).2⟩
         have hS : ∀ w, Chg (fun _ => False) wr w → w.cell? ⟨b, 0, none⟩ = some (.pointer (some ⟨m, 0, none⟩)) ∧ w.cell? ⟨bh, oh + j, none⟩ = some (.int .u64 key) := fun w cw => ⟨cell_of (HJ.out.1.quiet cw).both 0, cell_chg cw hcell (fun x => x)⟩
         have HHE : ∀ w, Chg (fun _ => False) wr w → Hid (Calls Tryz.prog 22 #[.pointer (some ⟨m, 0, none⟩), .int .u64 key] w fun e w' => (∃ pt ct, ∃ lt : List (Nat × Nat), ∃ nt ok, e = .returned (.tuple #[.slice pt nt ct, .bool ok]) ∧ Hid (nt = lt.length ∧ lt.length ≤ 8796093022000 ∧ OPairs w' pt ct lt ∧ ToldV E9 W.heap.size w' b m nw hd r mu Bk (i + 1) (i * 200010 + 1 + k * 100000 + 2 + j) (.slice pt lt.length ct))) ∧ Chg (fun _ => False) wr w') := fun w cw => ((HJ.out.1.quiet cw).held (by omega) hk64).mono (fun e w' hh => by
          obtain ⟨⟨pt, ct, lt, ok, e1, h1, h2, h3⟩, hc⟩ := hh
          exact ⟨⟨pt, ct, lt, lt.length, ok, e1, rfl, h1, h2, h3⟩, cw.trans hc (fun _ _ x => x) (fun _ _ x => x)⟩)
         have C0 : Chg (fun _ => False) wr wr := Chg.refl _ _
         have Cd : Chg (fun _ => False) wr wr.drew := C0.drew
         clear hkey hcell hk64
         go_upto_region 25 with fail
         go_region_held3 (fun w' => w'.cell? ⟨b, 0, none⟩ = some (.pointer (some ⟨m, 0, none⟩)) ∧ w'.cell? ⟨bh, oh + j, none⟩ = some (.int .u64 key)) (first | exact hS _ (by assumption))
          (first | (go_at_call 22; refine (HHE _ (by assumption)).out.mono ?_; rintro e z1 ⟨⟨pt, ct, lt, nt, ok, rfl, HTV⟩, hz1⟩))
         have HTK : Hid (Calls Tryz.prog 16 #[.pointer (some ⟨Bk, 0, none⟩), .slice pt nt ct] z1 fun e Y => e = .returned (.tuple #[]) ∧ OwnM E9 W.heap.size Y b m nw hd r mu Bk (i + 1) (i * 200010 + 1 + k * 100000 + 2 + j + 1) ∧ Wrt E9 W.heap.size z1 Y) := by (rw [HTV.out.1]; exact HTV.out.2.2.2.takeP HTV.out.2.1 HTV.out.2.2.1 (by omega))
         have HZ1 : Hid (KeysAt z1 (some ⟨bh, oh, none⟩) ss ∧ Chg (fun k => W.heap.size ≤ k) W z1) := ⟨HJ.out.2.1.chgE hz1 (.inr (fun _ _ _ x => x)), HJ.out.2.2.trans hz1 (fun _ _ x => x) (fun _ _ x => x.elim)⟩
         clear hS HHE C0 Cd hz1 HTV HJ
         go_wp2_with fail
         refine HTK.out.mono ?_
         rintro e z2 ⟨rfl, hM2, hW2⟩
         have HZ2 : Hid (OwnM E9 W.heap.size z2 b m nw hd r mu Bk (i + 1) (i * 200010 + 1 + k * 100000 + 2 + (j + 1)) ∧ KeysAt z2 (some ⟨bh, oh, none⟩) ss ∧ Chg (fun k => W.heap.size ≤ k) W z2) := ⟨hM2.weak (fun _ x => x) (Nat.le_refl _) (by omega), hW2.keys HZ1.out.1 HEE.out, hW2.chg HZ1.out.2⟩
         clear hM2 hW2 HTK HZ1
         go_wp2_with fail
         go_roundw
         case rel => exact ⟨j + 1, by omega, by first | rfl | go_num, HZ2⟩
         case measure => simp [intOf]; omega
        ·obtain rfl : ns = j := by omega
         have t2 : ¬ (ns : Int) < (ns : Int) := by omega
         clear hjn
         have HE2 : Hid (OwnM (fun _ => False) W.heap.size wr b m nw hd r mu Bk (i + 1) (i * 200010 + 1 + (k + 1) * 100000) ∧ Chg (fun k => W.heap.size ≤ k) W wr) := ⟨HJ.out.1.weak (fun _ x => x.elim) (Nat.le_refl _) (by omega), HJ.out.2.2⟩
         clear HJ HEE HNS
         go_wp2_with fail
         go_roundw
         case rel => exact ⟨k + 1, by omega, by first | rfl | go_num, HE2⟩
         case measure => simp [intOf]; omega
      ·obtain rfl : k = 2 := by omega
       have HE3 : Hid (OwnM (fun _ => False) W.heap.size wr b m nw hd r mu Bk (i + 1) ((i + 1) * 200010) ∧ Chg (fun k => W.heap.size ≤ k) W wr) := ⟨HK.out.1.weak (fun _ x => x) (Nat.le_refl _) (by omega), HK.out.2⟩
       clear HK hk2 hk
       go_wp2_with fail
       go_roundw
       case rel => exact ⟨i + 1, by omega, by first | rfl | go_num, HE3⟩
       case measure => simp [intOf]; omega
   ·obtain rfl : i = N := by omega
    have q1 : ¬ (i : Int) < (i : Int) := by omega
    clear hlt
    have HAL := keepH (HX.out.1.alone (by omega))
    go_upto_region 27 with fail
    go_wp2_with fail
    refine HAL.out.mono ?_
    rintro e wy ⟨rfl, hT, hC⟩
    have HAK := keepH (two_alike hT (by omega))
    have HGY : Hid (Chg (fun k => W.heap.size ≤ k) W wy) := HX.out.2.trans hC (fun _ _ x => x) (fun _ _ x => x)
    clear hT hC
    go_wp2_with fail
    refine HAK.out.mono ?_
    rintro e wv ⟨rfl, hC2⟩
    have HGV : Hid (Chg (fun k => W.heap.size ≤ k) W wv) := HGY.out.trans hC2 (fun _ _ x => x) (fun _ _ x => x.elim)
    clear hC2
    go_wp2_with fail
    go_ret
    exact ⟨by simp, HGV.out⟩
end Go.Proofs.YtahgaghokpicgaaGreat
