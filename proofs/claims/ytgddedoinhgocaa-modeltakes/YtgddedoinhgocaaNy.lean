/- ModelTakes: the whole walk. -/
import Derived.Test.YtgddedoinhgocaaNx
namespace Go.Proofs.Ytgddedoinhgocaa
open Go.RowKit Go.Maps
set_option linter.unusedVariables false

theorem OpI.Ok.chg {W W' : World} {y : OpI} (h : y.Ok W) (c : Chg (fun _ => False) W W') : y.Ok W' := ⟨h.ok, h.ks.chg c (fun _ _ _ x => x)⟩
theorem CallsAt.chg {W W' : World} {p : Option Addr} {l : List CallI} (h : CallsAt W p l) (c : Chg (fun _ => False) W W') : CallsAt W' p l := by
  rcases h with h | ⟨bk, off, rfl, hb, h⟩
  · exact .inl h
  · refine .inr ⟨bk, off, rfl, Nat.lt_of_lt_of_le hb c.size, fun i y hy => ?_⟩
    obtain ⟨h1, h2⟩ := h i y hy
    exact ⟨⟨h1.x.chg c, h1.hn, h1.op, h1.hd⟩, fun j v hj => cell_chg c (h2 j v hj) (fun x => x)⟩
theorem AnsAt.chg {W W' : World} {p : Option Addr} {l : List AnsI} (h : AnsAt W p l) (c : Chg (fun _ => False) W W') : AnsAt W' p l := by
  rcases h with h | ⟨bk, off, rfl, hb, h⟩
  · exact .inl h
  · refine .inr ⟨bk, off, rfl, Nat.lt_of_lt_of_le hb c.size, fun i y hy => ?_⟩
    obtain ⟨h1, h2⟩ := h i y hy
    exact ⟨⟨h1.ps.chg c, h1.pl, h1.h⟩, fun j v hj => cell_chg c (h2 j v hj) (fun x => x)⟩
theorem doH_zero (o : OpP) (A : Ans) (cl : Nat) {h : Nat → Option Nat} (h0 : h 0 = none) : doH o A cl h 0 = none := by
  unfold doH
  split
  · rename_i q
    rw [updO_other _ _ (Ne.symm q.2.2)]
    exact h0
  · split
    · by_cases e : (0 : Nat) = o.hk
      · rw [← e, updO_same]
      · rw [updO_other _ _ e]; exact h0
    · exact h0
/-- The model that is asked, as it was, the operation, and what was told. -/
structure TK (W wr : World) (m nw hd m' nw' hd' ob tb : Nat) (f h : Nat → Option Nat) (g : Nat → Nat → Option Nat) (n : Nat) (os ts : Array Value) (tp : Option Addr) (tl : List (Nat × Nat)) : Prop where
  mo : MoAt wr m nw hd 3 f h g n
  was : MoAt wr m' nw' hd' 3 f h g n
  op : wr.heap[ob]? = some (.cells os 29 (0, 0))
  t : wr.heap[tb]? = some (.cells ts 40 (0, 0))
  ps : PairsAt wr tp tl
  chg : Chg (fun _ => False) W wr
theorem TK.quiet {W wr wx : World} {m nw hd m' nw' hd' ob tb : Nat} {f h : Nat → Option Nat} {g : Nat → Nat → Option Nat} {n : Nat} {os ts : Array Value} {tp : Option Addr} {tl : List (Nat × Nat)} (H : TK W wr m nw hd m' nw' hd' ob tb f h g n os ts tp tl) (c : Chg (fun _ => False) wr wx) : TK W wx m nw hd m' nw' hd' ob tb f h g n os ts tp tl :=
  ⟨H.mo.quiet c, H.was.quiet c, (c.block _ (lt_of H.op) (fun x => x)).trans H.op, (c.block _ (lt_of H.t) (fun x => x)).trans H.t, H.ps.chg c, H.chg.trans c (fun _ _ x => x) (fun _ _ x => x)⟩
theorem PairsAt.chgN {F : Nat → Prop} {W W' : World} {p : Option Addr} {l : List (Nat × Nat)} (h : PairsAt W p l) (c : Chg F W W') (hn : ∀ i, i < W.heap.size → ¬ F i) : PairsAt W' p l := by
  rcases h with h | ⟨bk, off, rfl, hb, h⟩
  · exact .inl h
  · exact (PairsAt.chgF (.inr ⟨bk, off, rfl, hb, h⟩ : PairsAt W (some ⟨bk, off, none⟩) l) c (fun b o e => by injection e with e; injection e with e; subst e; exact hn _ hb))
theorem TK.after {F : Nat → Prop} {W wr wx : World} {m nw hd m' nw' hd' ob tb : Nat} {f h : Nat → Option Nat} {g : Nat → Nat → Option Nat} {n : Nat} {os ts : Array Value} {tp : Option Addr} {tl : List (Nat × Nat)} (H : TK W wr m nw hd m' nw' hd' ob tb f h g n os ts tp tl) (c : Chg F wr wx) (hF : ∀ i, i < wr.heap.size → ¬ F i) : TK W wx m nw hd m' nw' hd' ob tb f h g n os ts tp tl :=
  have b1 := H.mo.blk
  have b2 := H.was.blk
  ⟨H.mo.chg c (hF _ b1.1) (hF _ b1.2.1) (hF _ b1.2.2.1) (fun k b hb => hF _ (b1.2.2.2 k b hb)), H.was.chg c (hF _ b2.1) (hF _ b2.2.1) (hF _ b2.2.2.1) (fun k b hb => hF _ (b2.2.2.2 k b hb)), (c.block _ (lt_of H.op) (hF _ (lt_of H.op))).trans H.op, (c.block _ (lt_of H.t) (hF _ (lt_of H.t))).trans H.t, H.ps.chgN c hF, H.chg.trans c (fun _ _ x => x) (fun i hi e => hF i (Nat.lt_of_lt_of_le hi H.chg.size) e)⟩
theorem MoAt.after {F : Nat → Prop} {W W' : World} {m nw hd mu : Nat} {f h : Nat → Option Nat} {g : Nat → Nat → Option Nat} {n : Nat} (H : MoAt W m nw hd mu f h g n) (c : Chg F W W') (hF : ∀ i, i < W.heap.size → ¬ F i) : MoAt W' m nw hd mu f h g n :=
  have b1 := H.blk
  H.chg c (hF _ b1.1) (hF _ b1.2.1) (hF _ b1.2.2.1) (fun k b hb => hF _ (b1.2.2.2 k b hb))
theorem do_idle (o : OpP) (A : Ans) (f : Nat → Option Nat) (pc : Nat → Option (Nat → Option Nat)) (he : A.e ≠ 0 ∨ (o.kd = 5 ∧ A.h = 0)) : doF o A f = f ∧ doP o A f pc = pc := by
  constructor
  · unfold doF
    rw [if_neg (by omega), if_neg (by omega)]
  · funext k
    unfold doP
    rw [if_neg (by omega), if_neg (by omega)]
set_option maxRecDepth 100000 in
set_option maxHeartbeats 16000000 in
theorem takes_walk {Lp Xp : Option Addr} {Lc Xc hn : Nat} {L : List CallI} {X : List AnsI} {y : OpI} {W : World} (hL : CallsAt W Lp L) (hy : y.Ok W) (hh64 : hn < 18446744073709551616) (hX : AnsAt W Xp X) (hXl : X.length ≤ 9223372036854775807) (hLl : L.length ≤ 2000000000000) :
    Calls Try.prog 3 #[.agg #[.slice Lp L.length Lc, .int .u8 y.o.kd, .int .u64 (y.o.k : Int), .int .u64 (y.o.v : Int), .int .u64 (y.o.od : Int), .int .u64 (y.o.hk : Int), .bool y.r5, .int .i64 y.r6, .int .i64 y.r7, .slice y.kp y.o.ks.length y.kc, .int .u64 (y.o.lo : Int), .int .u64 (y.o.hi : Int), .int .u64 (hn : Int), .slice Xp X.length Xc]] W fun e W' => e = .returned (.bool true) ∧ Chg (fun _ => False) W W' := by
  obtain ⟨w0, hw0⟩ : ∃ w0, w0 = W.alloc (.cells #[.slice Lp L.length Lc, .int .u8 y.o.kd, .int .u64 (y.o.k : Int), .int .u64 (y.o.v : Int), .int .u64 (y.o.od : Int), .int .u64 (y.o.hk : Int), .bool y.r5, .int .i64 y.r6, .int .i64 y.r7, .slice y.kp y.o.ks.length y.kc, .int .u64 (y.o.lo : Int), .int .u64 (y.o.hi : Int), .int .u64 (hn : Int), .slice Xp X.length Xc] 32) := ⟨_, rfl⟩
  have C0 : Chg (fun _ => False) W w0 := by rw [hw0]; exact (Chg.refl _ _).alloc _
  have HP0 : Hid (w0.heap[W.heap.size]? = some (.cells #[.slice Lp L.length Lc, .int .u8 y.o.kd, .int .u64 (y.o.k : Int), .int .u64 (y.o.v : Int), .int .u64 (y.o.od : Int), .int .u64 (y.o.hk : Int), .bool y.r5, .int .i64 y.r6, .int .i64 y.r7, .slice y.kp y.o.ks.length y.kc, .int .u64 (y.o.lo : Int), .int .u64 (y.o.hi : Int), .int .u64 (hn : Int), .slice Xp X.length Xc] 32 (0, 0))) := by rw [hw0]; exact heap_alloc_new _ _
  have HC0 := keepH C0
  have HIN : Hid (CallsAt W Lp L ∧ y.Ok W ∧ AnsAt W Xp X) := ⟨hL, hy, hX⟩
  clear C0 hL hy hX
  go_enter Try.func3, Try.ntmps3
  go_upto_region 1 with fail
  rw [← hw0]
  clear hw0
  go_wp2_with fail
  refine (live_06 w0).mono ?_
  rintro e w1 ⟨rfl, C1⟩
  have HP1 := keepH ((C1.block _ (lt_of HP0.out) (fun x => x)).trans HP0.out)
  have HC1 : Hid (Chg (fun _ => False) W w1) := HC0.out.trans C1 (fun _ _ x => x) (fun _ _ x => x)
  clear C1
  have p0 : w1.cell? ⟨W.heap.size, 0, none⟩ = some (.slice Lp L.length Lc) := cell_of HP1.out 0
  have p1 : w1.cell? ⟨W.heap.size, 1, none⟩ = some (.int .u8 y.o.kd) := cell_of HP1.out 1
  have p2 : w1.cell? ⟨W.heap.size, 2, none⟩ = some (.int .u64 (y.o.k : Int)) := cell_of HP1.out 2
  have p3 : w1.cell? ⟨W.heap.size, 3, none⟩ = some (.int .u64 (y.o.v : Int)) := cell_of HP1.out 3
  have p4 : w1.cell? ⟨W.heap.size, 4, none⟩ = some (.int .u64 (y.o.od : Int)) := cell_of HP1.out 4
  have p5 : w1.cell? ⟨W.heap.size, 5, none⟩ = some (.int .u64 (y.o.hk : Int)) := cell_of HP1.out 5
  have p6 : w1.cell? ⟨W.heap.size, 6, none⟩ = some (.bool y.r5) := cell_of HP1.out 6
  have p7 : w1.cell? ⟨W.heap.size, 7, none⟩ = some (.int .i64 y.r6) := cell_of HP1.out 7
  have p8 : w1.cell? ⟨W.heap.size, 8, none⟩ = some (.int .i64 y.r7) := cell_of HP1.out 8
  have p9 : w1.cell? ⟨W.heap.size, 9, none⟩ = some (.slice y.kp y.o.ks.length y.kc) := cell_of HP1.out 9
  have p10 : w1.cell? ⟨W.heap.size, 10, none⟩ = some (.int .u64 (y.o.lo : Int)) := cell_of HP1.out 10
  have p11 : w1.cell? ⟨W.heap.size, 11, none⟩ = some (.int .u64 (y.o.hi : Int)) := cell_of HP1.out 11
  have p12 : w1.cell? ⟨W.heap.size, 12, none⟩ = some (.int .u64 (hn : Int)) := cell_of HP1.out 12
  have p13 : w1.cell? ⟨W.heap.size, 13, none⟩ = some (.slice Xp X.length Xc) := cell_of HP1.out 13
  obtain ⟨w2, hw2⟩ : ∃ w2, w2 = w1.alloc (.cells #[.int .u8 y.o.kd, .int .u64 (y.o.k : Int), .int .u64 (y.o.v : Int), .int .u64 (y.o.od : Int), .int .u64 (y.o.hk : Int), .bool y.r5, .int .i64 y.r6, .int .i64 y.r7, .slice y.kp y.o.ks.length y.kc, .int .u64 (y.o.lo : Int), .int .u64 (y.o.hi : Int)] 29) := ⟨_, rfl⟩
  have C2 : Chg (fun _ => False) w1 w2 := by rw [hw2]; exact (Chg.refl _ _).alloc _
  have HP2 := keepH ((C2.block _ (lt_of HP1.out) (fun x => x)).trans HP1.out)
  obtain ⟨ob, hob⟩ : ∃ ob, ob = w1.heap.size := ⟨_, rfl⟩
  have HOB : Hid (w2.heap[ob]? = some (.cells #[.int .u8 y.o.kd, .int .u64 (y.o.k : Int), .int .u64 (y.o.v : Int), .int .u64 (y.o.od : Int), .int .u64 (y.o.hk : Int), .bool y.r5, .int .i64 y.r6, .int .i64 y.r7, .slice y.kp y.o.ks.length y.kc, .int .u64 (y.o.lo : Int), .int .u64 (y.o.hi : Int)] 29 (0, 0))) := by rw [hob, hw2]; exact heap_alloc_new _ _
  have HC2 : Hid (Chg (fun _ => False) W w2) := HC1.out.trans C2 (fun _ _ x => x) (fun _ _ x => x)
  have HCL := keepH (HIN.out.1.chg HC2.out)
  have HY := keepH (HIN.out.2.1.chg HC2.out)
  have HAX := keepH (HIN.out.2.2.chg HC2.out)
  clear C2
  go_upto_region 5 with fail
  rw [← hw2, ← hob]
  clear hw2 hob p0 p1 p2 p3 p4 p5 p6 p7 p8 p9 p10 p11 p12 p13
  have p0 : w2.cell? ⟨W.heap.size, 0, none⟩ = some (.slice Lp L.length Lc) := cell_of HP2.out 0
  have p1 : w2.cell? ⟨W.heap.size, 1, none⟩ = some (.int .u8 y.o.kd) := cell_of HP2.out 1
  have p2 : w2.cell? ⟨W.heap.size, 2, none⟩ = some (.int .u64 (y.o.k : Int)) := cell_of HP2.out 2
  have p3 : w2.cell? ⟨W.heap.size, 3, none⟩ = some (.int .u64 (y.o.v : Int)) := cell_of HP2.out 3
  have p4 : w2.cell? ⟨W.heap.size, 4, none⟩ = some (.int .u64 (y.o.od : Int)) := cell_of HP2.out 4
  have p5 : w2.cell? ⟨W.heap.size, 5, none⟩ = some (.int .u64 (y.o.hk : Int)) := cell_of HP2.out 5
  have p6 : w2.cell? ⟨W.heap.size, 6, none⟩ = some (.bool y.r5) := cell_of HP2.out 6
  have p7 : w2.cell? ⟨W.heap.size, 7, none⟩ = some (.int .i64 y.r6) := cell_of HP2.out 7
  have p8 : w2.cell? ⟨W.heap.size, 8, none⟩ = some (.int .i64 y.r7) := cell_of HP2.out 8
  have p9 : w2.cell? ⟨W.heap.size, 9, none⟩ = some (.slice y.kp y.o.ks.length y.kc) := cell_of HP2.out 9
  have p10 : w2.cell? ⟨W.heap.size, 10, none⟩ = some (.int .u64 (y.o.lo : Int)) := cell_of HP2.out 10
  have p11 : w2.cell? ⟨W.heap.size, 11, none⟩ = some (.int .u64 (y.o.hi : Int)) := cell_of HP2.out 11
  have p12 : w2.cell? ⟨W.heap.size, 12, none⟩ = some (.int .u64 (hn : Int)) := cell_of HP2.out 12
  have p13 : w2.cell? ⟨W.heap.size, 13, none⟩ = some (.slice Xp X.length Xc) := cell_of HP2.out 13
  go_wp2_with fail
  refine (new_g 3 (by omega) (by omega) w2).mono ?_
  rintro e w3 ⟨rfl, M3, C3⟩
  obtain ⟨m, hm⟩ : ∃ m, m = w2.heap.size + 2 := ⟨_, rfl⟩
  obtain ⟨hd, hhd⟩ : ∃ hd, hd = w2.heap.size + 1 := ⟨_, rfl⟩
  obtain ⟨nw, hnw⟩ : ∃ nw, nw = w2.heap.size := ⟨_, rfl⟩
  have HM : Hid (∃ f h g, M1 w2 w3 m nw hd f h g 0 ∧ h 0 = none) := by
    rw [← hm, ← hhd, ← hnw] at M3
    exact ⟨_, _, _, ⟨M3, by omega, C3⟩, rfl⟩
  rw [← hm]
  clear M3 C3 hm hhd hnw p0 p1 p2 p3 p4 p5 p6 p7 p8 p9 p10 p11 p12 p13
  go_wp2_with fail
  go_loopw [9] (fun s wr => ∃ i : Nat, i ≤ L.length ∧ s = .int .i64 (i : Int) ∧ Hid (∃ f h g, M1 w2 wr m nw hd f h g i ∧ h 0 = none)) (fun s _ => L.length - natOf s)
  case atStart => exact ⟨0, Nat.zero_le _, rfl, HM⟩
  case round =>
    obtain ⟨i, hil, rfl, HX⟩ := hrel
    by_cases hlt : i < L.length
    · have q1 : (i : Int) < (L.length : Int) := by omega
      obtain ⟨q, hq⟩ : ∃ q, L[i]? = some q := ⟨L[i], List.getElem?_eq_getElem hlt⟩
      obtain ⟨f, h, g, HM1, h00⟩ := HX.out
      have HMM := keepH HM1
      have H00 := keepH h00
      obtain ⟨bk, off, rfl, hbk, hok, hcs⟩ := HCL.out.get HM1.chg hq
      have HK := keepH hok
      have c0 := hcs 1 _ (hok.op 0 _ rfl)
      have c1 := hcs 2 _ (hok.op 1 _ rfl)
      have c2 := hcs 3 _ (hok.op 2 _ rfl)
      have c3 := hcs 4 _ (hok.op 3 _ rfl)
      have c4 := hcs 5 _ (hok.op 4 _ rfl)
      have c5 := hcs 6 _ (hok.op 5 _ rfl)
      have c6 := hcs 7 _ (hok.op 6 _ rfl)
      have c7 := hcs 8 _ (hok.op 7 _ rfl)
      have c8 := hcs 9 _ (hok.op 8 _ rfl)
      have c9 := hcs 10 _ (hok.op 9 _ rfl)
      have c10 := hcs 11 _ (hok.op 10 _ rfl)
      have c19 := hcs 19 _ hok.hd
      have HS : ∀ w', Chg (fun i => i = nw ∨ i = hd) wr w' → Hid (w'.cell? ⟨bk, off + i * 20 + 1, none⟩ = some (.int .u8 q.x.o.kd) ∧ w'.cell? ⟨bk, off + i * 20 + 1 + 1, none⟩ = some (.int .u64 (q.x.o.k : Int)) ∧ w'.cell? ⟨bk, off + i * 20 + 1 + 2, none⟩ = some (.int .u64 (q.x.o.v : Int)) ∧ w'.cell? ⟨bk, off + i * 20 + 1 + 3, none⟩ = some (.int .u64 (q.x.o.od : Int)) ∧ w'.cell? ⟨bk, off + i * 20 + 1 + 4, none⟩ = some (.int .u64 (q.x.o.hk : Int)) ∧ w'.cell? ⟨bk, off + i * 20 + 1 + 5, none⟩ = some (.bool q.x.r5) ∧ w'.cell? ⟨bk, off + i * 20 + 1 + 6, none⟩ = some (.int .i64 q.x.r6) ∧ w'.cell? ⟨bk, off + i * 20 + 1 + 7, none⟩ = some (.int .i64 q.x.r7) ∧ w'.cell? ⟨bk, off + i * 20 + 1 + 8, none⟩ = some (.slice q.x.kp q.x.o.ks.length q.x.kc) ∧ w'.cell? ⟨bk, off + i * 20 + 1 + 9, none⟩ = some (.int .u64 (q.x.o.lo : Int)) ∧ w'.cell? ⟨bk, off + i * 20 + 1 + 10, none⟩ = some (.int .u64 (q.x.o.hi : Int)) ∧ w'.cell? ⟨bk, off + i * 20 + 19, none⟩ = some (.int .u64 (q.hn : Int))) := fun w' cw => by
        have z := HM1.ge
        have nb : ¬ (bk = nw ∨ bk = hd) := by omega
        exact ⟨cell_chg cw c0 nb, cell_chg cw c1 nb, cell_chg cw c2 nb, cell_chg cw c3 nb, cell_chg cw c4 nb, cell_chg cw c5 nb, cell_chg cw c6 nb, cell_chg cw c7 nb, cell_chg cw c8 nb, cell_chg cw c9 nb, cell_chg cw c10 nb, cell_chg cw c19 nb⟩
      have HD : ∀ w, Chg (fun _ => False) wr w → Hid _ := fun w cw => keepH (HMM.out.call HK.out cw (by omega))
      have CR : Chg (fun i => i = nw ∨ i = hd) wr wr := Chg.refl _ _
      have CRd : Chg (fun _ => False) wr wr.drew := (Chg.refl (fun _ => False) wr).drew
      have CR2 : Chg (fun i => i = nw ∨ i = hd) wr wr.drew := CR.drew
      clear HM1 h00 hq hcs hok hbk
      clear c0 c1 c2 c3 c4 c5 c6 c7 c8 c9 c10 c19
      go_wp2_with fail
      go_region_held3 (fun w' => w'.cell? ⟨bk, off + i * 20 + 1, none⟩ = some (.int .u8 q.x.o.kd) ∧ w'.cell? ⟨bk, off + i * 20 + 1 + 1, none⟩ = some (.int .u64 (q.x.o.k : Int)) ∧ w'.cell? ⟨bk, off + i * 20 + 1 + 2, none⟩ = some (.int .u64 (q.x.o.v : Int)) ∧ w'.cell? ⟨bk, off + i * 20 + 1 + 3, none⟩ = some (.int .u64 (q.x.o.od : Int)) ∧ w'.cell? ⟨bk, off + i * 20 + 1 + 4, none⟩ = some (.int .u64 (q.x.o.hk : Int)) ∧ w'.cell? ⟨bk, off + i * 20 + 1 + 5, none⟩ = some (.bool q.x.r5) ∧ w'.cell? ⟨bk, off + i * 20 + 1 + 6, none⟩ = some (.int .i64 q.x.r6) ∧ w'.cell? ⟨bk, off + i * 20 + 1 + 7, none⟩ = some (.int .i64 q.x.r7) ∧ w'.cell? ⟨bk, off + i * 20 + 1 + 8, none⟩ = some (.slice q.x.kp q.x.o.ks.length q.x.kc) ∧ w'.cell? ⟨bk, off + i * 20 + 1 + 9, none⟩ = some (.int .u64 (q.x.o.lo : Int)) ∧ w'.cell? ⟨bk, off + i * 20 + 1 + 10, none⟩ = some (.int .u64 (q.x.o.hi : Int)) ∧ w'.cell? ⟨bk, off + i * 20 + 19, none⟩ = some (.int .u64 (q.hn : Int))) (first | exact (HS _ (by assumption)).out)
        (first | (go_at_call 8; refine (HD _ (by assumption)).out.mono ?_; rintro e w4 ⟨⟨u, rfl⟩, ⟨cl, hcl, hM4⟩, hC4⟩; have hC5 : Chg (fun i => i = nw ∨ i = hd) wr w4 := CR2.trans hC4 (fun _ _ x => x) (fun _ _ x => x)))
      all_goals (
        have HM4 := keepH hM4
        clear hM4 hcl
        go_wp2_with fail
        go_roundw
        case rel => exact ⟨i + 1, by omega, by first | rfl | go_num, ⟨_, _, _, HM4.out, doH_zero _ _ _ H00.out⟩⟩
        case measure => exact meas hlt)
    · have q1 : ¬ (i : Int) < (L.length : Int) := by omega
      obtain rfl : i = L.length := by omega
      clear hlt
      obtain ⟨f, h, g, HM1, h00⟩ := HX.out
      have HMM := keepH HM1
      have HZ := keepH h00
      clear HM1 h00
      obtain ⟨n, hnn⟩ : ∃ n, n = L.length := ⟨_, rfl⟩
      have HN : Hid (n ≤ 8796093022000) := by show _ ≤ _; omega
      rw [← hnn] at HMM
      clear hnn
      obtain ⟨wf, hwf⟩ : ∃ wf, wf = wr := ⟨_, rfl⟩
      rw [← hwf] at HMM ⊢
      clear hwf
      go_wp2_with fail
      refine (m_fork HMM.out.mo).mono ?_
      rintro e w4 ⟨⟨ma, na, ha, rfl, hMA, hA1, hA2, hA3⟩, C4⟩
      have HMA4 := keepH hMA
      have HM4 := keepH (HMM.out.quiet C4)
      have HG4 : Hid (wf.heap.size ≤ ma ∧ wf.heap.size ≤ na ∧ wf.heap.size ≤ ha) := ⟨hA1, hA2, hA3⟩
      clear hMA hA1 hA2 hA3 C4
      go_wp2_with fail
      refine (m_fork HM4.out.mo).mono ?_
      rintro e w5 ⟨⟨mS, nS, hS, rfl, hMS, hS1, hS2, hS3⟩, C5⟩
      have HMA5 := keepH (HMA4.out.quiet C5)
      have HM5 := keepH (HM4.out.quiet C5)
      obtain ⟨A, hA⟩ : ∃ A, A = tellP 3 f (pcs h g) y.o hn := ⟨_, rfl⟩
      have HA := keepH hA
      have HD6 := keepH (do_told HY.out.ok (r5 := y.r5) (r6 := y.r6) (r7 := y.r7) (kc := y.kc) hh64 HMA5.out (by omega) HN.out (HY.out.ks.chg HM5.out.chg (fun _ _ _ x => x)) hA)
      have HMS5 := keepH hMS
      have HG5 : Hid (w4.heap.size ≤ mS ∧ w4.heap.size ≤ nS ∧ w4.heap.size ≤ hS) := ⟨hS1, hS2, hS3⟩
      have HOB5 := keepH ((HM5.out.chg.block _ (lt_of HOB.out) (fun x => x)).trans HOB.out)
      clear hMS hS1 hS2 hS3 C5 hA
      have o0 : w5.cell? ⟨ob, 0, none⟩ = some (.int .u8 y.o.kd) := cell_of HOB5.out 0
      have o1 : w5.cell? ⟨ob, 1, none⟩ = some (.int .u64 (y.o.k : Int)) := cell_of HOB5.out 1
      have o2 : w5.cell? ⟨ob, 2, none⟩ = some (.int .u64 (y.o.v : Int)) := cell_of HOB5.out 2
      have o3 : w5.cell? ⟨ob, 3, none⟩ = some (.int .u64 (y.o.od : Int)) := cell_of HOB5.out 3
      have o4 : w5.cell? ⟨ob, 4, none⟩ = some (.int .u64 (y.o.hk : Int)) := cell_of HOB5.out 4
      have o5 : w5.cell? ⟨ob, 5, none⟩ = some (.bool y.r5) := cell_of HOB5.out 5
      have o6 : w5.cell? ⟨ob, 6, none⟩ = some (.int .i64 y.r6) := cell_of HOB5.out 6
      have o7 : w5.cell? ⟨ob, 7, none⟩ = some (.int .i64 y.r7) := cell_of HOB5.out 7
      have o8 : w5.cell? ⟨ob, 8, none⟩ = some (.slice y.kp y.o.ks.length y.kc) := cell_of HOB5.out 8
      have o9 : w5.cell? ⟨ob, 9, none⟩ = some (.int .u64 (y.o.lo : Int)) := cell_of HOB5.out 9
      have o10 : w5.cell? ⟨ob, 10, none⟩ = some (.int .u64 (y.o.hi : Int)) := cell_of HOB5.out 10
      go_wp2_with fail
      refine HD6.out.mono ?_
      rintro e w6 ⟨⟨tp, tc, rfl, hPt, hPB, hPl⟩, ⟨h', g', hMA6, hPA⟩, C6⟩
      unfold ansC
      have HPA := keepH hPA
      have HAL : Hid (A.l.length ≤ 9223372036854775807) := Nat.le_trans hPl (by omega)
      obtain ⟨tb, htb⟩ : ∃ tb, tb = w6.heap.size := ⟨_, rfl⟩
      obtain ⟨w7, hw7⟩ : ∃ w7, w7 = w6.alloc (.cells #[.int .i64 A.e, .bool A.f, .int .u64 (A.x : Int), .bool A.d, .int .u64 (A.h : Int), .slice tp A.l.length tc, .int .u64 (A.n : Int)] 40) := ⟨_, rfl⟩
      have C7 : Chg (fun _ => False) w6 w7 := by rw [hw7]; exact (Chg.refl _ _).alloc _
      have HTA : Hid (MoAt w7 ma na ha 3 (doF y.o A f) h' g' (n + 1)) := hMA6.quiet C7
      have HTK : Hid (TK w2 w7 m nw hd mS nS hS ob tb f h g n #[.int .u8 y.o.kd, .int .u64 (y.o.k : Int), .int .u64 (y.o.v : Int), .int .u64 (y.o.od : Int), .int .u64 (y.o.hk : Int), .bool y.r5, .int .i64 y.r6, .int .i64 y.r7, .slice y.kp y.o.ks.length y.kc, .int .u64 (y.o.lo : Int), .int .u64 (y.o.hi : Int)] #[.int .i64 A.e, .bool A.f, .int .u64 (A.x : Int), .bool A.d, .int .u64 (A.h : Int), .slice tp A.l.length tc, .int .u64 (A.n : Int)] tp A.l) := by
        have b1 := HMM.out.mo.blk
        have b2 := HG4.out
        have b3 := HG5.out
        have b4 := HMA4.out.blk
        have b5 := HM5.out.ge
        have b6 := HMM.out.chg.size
        have b7 := lt_of HOB.out
        have b8 := HM4.out.mo.blk
        refine ⟨(HM5.out.mo.chg C6 (by omega) (by omega) (by omega) (fun k b hb => by have := b1.2.2.2 k b hb; omega)).quiet C7, (HMS5.out.chg C6 (by omega) (by omega) (by omega) (fun k b hb => by have := b1.2.2.2 k b hb; omega)).quiet C7, ?_, by rw [htb, hw7]; exact heap_alloc_new _ _, hPt.chg C7, (HM5.out.chg.trans C6 (H := fun _ => False) (fun _ _ x => x) (fun i hi e => by omega)).trans C7 (fun _ _ x => x) (fun _ _ x => x)⟩
        exact (C7.block _ (Nat.lt_of_lt_of_le (lt_of HOB5.out) C6.size) (fun x => x)).trans ((C6.block _ (lt_of HOB5.out) (by omega)).trans HOB5.out)
      clear hPt hPB hPl hMA6 hPA C6 HD6 HMA5 HMA4 HM5 HM4 HMS5 HG4 HG5 HOB5 o0 o1 o2 o3 o4 o5 o6 o7 o8 o9 o10 C7
      go_upto_region 15 with fail
      rw [← hw7, ← htb]
      clear hw7 htb
      by_cases e0 : A.e = 0
      · have ze : (A.e != 0) = false := by simp [e0]
        clear e0
        by_cases c5 : y.o.kd = 5 ∧ hn = 0
        · obtain ⟨k5, h0⟩ := c5
          have eA : A = ⟨0, false, 0, false, 0, [], 0⟩ := by
            have e5 := tellP_5 3 f (pcs h g) y.o hn k5
            rw [← HA.out, h0, if_neg (by simp [pcs, HZ.out])] at e5
            exact e5
          have id := do_idle y.o A f (pcs h g) (.inr ⟨k5, by rw [eA]⟩)
          have z5 : (y.o.kd == 5) = true := by simpa using k5
          have zh : ((hn : Int) == 0) = true := by simp [h0]
          have za : ((A.h : Int) == 0) = true := by rw [eA]; rfl
          have ze : (A.e == 0) = true := by rw [eA]; rfl
          have HSM := keepH (same_true HTA.out (by rw [id.1]; exact HTK.out.mo) (HPA.out.trans id.2))
          have HK5 := keepH k5
          have HEA := keepH eA
          have o0 : w7.cell? ⟨ob, 0, none⟩ = some (.int .u8 y.o.kd) := cell_of HTK.out.op 0
          have o1 : w7.cell? ⟨ob, 1, none⟩ = some (.int .u64 (y.o.k : Int)) := cell_of HTK.out.op 1
          have o2 : w7.cell? ⟨ob, 2, none⟩ = some (.int .u64 (y.o.v : Int)) := cell_of HTK.out.op 2
          have o3 : w7.cell? ⟨ob, 3, none⟩ = some (.int .u64 (y.o.od : Int)) := cell_of HTK.out.op 3
          have o4 : w7.cell? ⟨ob, 4, none⟩ = some (.int .u64 (y.o.hk : Int)) := cell_of HTK.out.op 4
          have o5 : w7.cell? ⟨ob, 5, none⟩ = some (.bool y.r5) := cell_of HTK.out.op 5
          have o6 : w7.cell? ⟨ob, 6, none⟩ = some (.int .i64 y.r6) := cell_of HTK.out.op 6
          have o7 : w7.cell? ⟨ob, 7, none⟩ = some (.int .i64 y.r7) := cell_of HTK.out.op 7
          have o8 : w7.cell? ⟨ob, 8, none⟩ = some (.slice y.kp y.o.ks.length y.kc) := cell_of HTK.out.op 8
          have o9 : w7.cell? ⟨ob, 9, none⟩ = some (.int .u64 (y.o.lo : Int)) := cell_of HTK.out.op 9
          have o10 : w7.cell? ⟨ob, 10, none⟩ = some (.int .u64 (y.o.hi : Int)) := cell_of HTK.out.op 10
          have t0 : w7.cell? ⟨tb, 0, none⟩ = some (.int .i64 A.e) := cell_of HTK.out.t 0
          have t1 : w7.cell? ⟨tb, 1, none⟩ = some (.bool A.f) := cell_of HTK.out.t 1
          have t2 : w7.cell? ⟨tb, 2, none⟩ = some (.int .u64 (A.x : Int)) := cell_of HTK.out.t 2
          have t3 : w7.cell? ⟨tb, 3, none⟩ = some (.bool A.d) := cell_of HTK.out.t 3
          have t4 : w7.cell? ⟨tb, 4, none⟩ = some (.int .u64 (A.h : Int)) := cell_of HTK.out.t 4
          have t5 : w7.cell? ⟨tb, 5, none⟩ = some (.slice tp A.l.length tc) := cell_of HTK.out.t 5
          have t6 : w7.cell? ⟨tb, 6, none⟩ = some (.int .u64 (A.n : Int)) := cell_of HTK.out.t 6
          clear k5 h0 id eA
          go_wp2_with fail
          refine HSM.out.mono ?_
          rintro e w20 ⟨rfl, C20⟩
          have HTK20 := keepH (HTK.out.quiet C20)
          have HTN := keepH (take_no5 HY.out.ok (r5 := y.r5) (r6 := y.r6) (r7 := y.r7) (kc := y.kc) (cb := tc) (B := A) (by rw [HEA.out]; decide) HTK20.out.mo (by omega) HN.out (HY.out.ks.chg HTK20.out.chg (fun _ _ _ x => x)) HTK20.out.ps (by rw [HEA.out]; simp) (A := tellP 3 f (pcs h g) y.o A.h) rfl (by rw [HK5.out, HEA.out]; rfl) HK5.out (by rw [HEA.out]))
          clear o0 o1 o2 o3 o4 o5 o6 o7 o8 o9 o10 t0 t1 t2 t3 t4 t5 t6 C20
          have o0 : w20.cell? ⟨ob, 0, none⟩ = some (.int .u8 y.o.kd) := cell_of HTK20.out.op 0
          have o1 : w20.cell? ⟨ob, 1, none⟩ = some (.int .u64 (y.o.k : Int)) := cell_of HTK20.out.op 1
          have o2 : w20.cell? ⟨ob, 2, none⟩ = some (.int .u64 (y.o.v : Int)) := cell_of HTK20.out.op 2
          have o3 : w20.cell? ⟨ob, 3, none⟩ = some (.int .u64 (y.o.od : Int)) := cell_of HTK20.out.op 3
          have o4 : w20.cell? ⟨ob, 4, none⟩ = some (.int .u64 (y.o.hk : Int)) := cell_of HTK20.out.op 4
          have o5 : w20.cell? ⟨ob, 5, none⟩ = some (.bool y.r5) := cell_of HTK20.out.op 5
          have o6 : w20.cell? ⟨ob, 6, none⟩ = some (.int .i64 y.r6) := cell_of HTK20.out.op 6
          have o7 : w20.cell? ⟨ob, 7, none⟩ = some (.int .i64 y.r7) := cell_of HTK20.out.op 7
          have o8 : w20.cell? ⟨ob, 8, none⟩ = some (.slice y.kp y.o.ks.length y.kc) := cell_of HTK20.out.op 8
          have o9 : w20.cell? ⟨ob, 9, none⟩ = some (.int .u64 (y.o.lo : Int)) := cell_of HTK20.out.op 9
          have o10 : w20.cell? ⟨ob, 10, none⟩ = some (.int .u64 (y.o.hi : Int)) := cell_of HTK20.out.op 10
          have t0 : w20.cell? ⟨tb, 0, none⟩ = some (.int .i64 A.e) := cell_of HTK20.out.t 0
          have t1 : w20.cell? ⟨tb, 1, none⟩ = some (.bool A.f) := cell_of HTK20.out.t 1
          have t2 : w20.cell? ⟨tb, 2, none⟩ = some (.int .u64 (A.x : Int)) := cell_of HTK20.out.t 2
          have t3 : w20.cell? ⟨tb, 3, none⟩ = some (.bool A.d) := cell_of HTK20.out.t 3
          have t4 : w20.cell? ⟨tb, 4, none⟩ = some (.int .u64 (A.h : Int)) := cell_of HTK20.out.t 4
          have t5 : w20.cell? ⟨tb, 5, none⟩ = some (.slice tp A.l.length tc) := cell_of HTK20.out.t 5
          have t6 : w20.cell? ⟨tb, 6, none⟩ = some (.int .u64 (A.n : Int)) := cell_of HTK20.out.t 6
          go_wp2_with fail
          refine HTN.out.mono ?_
          rintro e w21 ⟨rfl, C21⟩
          have HC21 : Hid (Chg (fun _ => False) W w21) := (HC2.out.trans HTK20.out.chg (H := fun _ => False) (fun _ _ x => x) (fun _ _ x => x)).trans C21 (fun _ _ x => x) (fun _ _ x => x)
          clear C21
          go_wp2_with fail
          go_ret
          exact ⟨by simp, HC21.out⟩
        · have HC5 := keepH c5
          have hcs : ((y.o.kd == 5) = false) ∨ ((y.o.kd == 5) = true ∧ ((hn : Int) == 0) = false) := by
            by_cases k5 : y.o.kd = 5
            · exact .inr ⟨by simpa using k5, by
                have : ¬ hn = 0 := fun x => c5 ⟨k5, x⟩
                simp
                omega⟩
            · exact .inl (by simpa using k5)
          clear c5
          have o0 : w7.cell? ⟨ob, 0, none⟩ = some (.int .u8 y.o.kd) := cell_of HTK.out.op 0
          have o1 : w7.cell? ⟨ob, 1, none⟩ = some (.int .u64 (y.o.k : Int)) := cell_of HTK.out.op 1
          have o2 : w7.cell? ⟨ob, 2, none⟩ = some (.int .u64 (y.o.v : Int)) := cell_of HTK.out.op 2
          have o3 : w7.cell? ⟨ob, 3, none⟩ = some (.int .u64 (y.o.od : Int)) := cell_of HTK.out.op 3
          have o4 : w7.cell? ⟨ob, 4, none⟩ = some (.int .u64 (y.o.hk : Int)) := cell_of HTK.out.op 4
          have o5 : w7.cell? ⟨ob, 5, none⟩ = some (.bool y.r5) := cell_of HTK.out.op 5
          have o6 : w7.cell? ⟨ob, 6, none⟩ = some (.int .i64 y.r6) := cell_of HTK.out.op 6
          have o7 : w7.cell? ⟨ob, 7, none⟩ = some (.int .i64 y.r7) := cell_of HTK.out.op 7
          have o8 : w7.cell? ⟨ob, 8, none⟩ = some (.slice y.kp y.o.ks.length y.kc) := cell_of HTK.out.op 8
          have o9 : w7.cell? ⟨ob, 9, none⟩ = some (.int .u64 (y.o.lo : Int)) := cell_of HTK.out.op 9
          have o10 : w7.cell? ⟨ob, 10, none⟩ = some (.int .u64 (y.o.hi : Int)) := cell_of HTK.out.op 10
          have t0 : w7.cell? ⟨tb, 0, none⟩ = some (.int .i64 A.e) := cell_of HTK.out.t 0
          have t1 : w7.cell? ⟨tb, 1, none⟩ = some (.bool A.f) := cell_of HTK.out.t 1
          have t2 : w7.cell? ⟨tb, 2, none⟩ = some (.int .u64 (A.x : Int)) := cell_of HTK.out.t 2
          have t3 : w7.cell? ⟨tb, 3, none⟩ = some (.bool A.d) := cell_of HTK.out.t 3
          have t4 : w7.cell? ⟨tb, 4, none⟩ = some (.int .u64 (A.h : Int)) := cell_of HTK.out.t 4
          have t5 : w7.cell? ⟨tb, 5, none⟩ = some (.slice tp A.l.length tc) := cell_of HTK.out.t 5
          have t6 : w7.cell? ⟨tb, 6, none⟩ = some (.int .u64 (A.n : Int)) := cell_of HTK.out.t 6
          rcases hcs with z5 | ⟨z5, zh⟩
          all_goals (
            go_wp2_with fail
            refine (m_fork HTK.out.mo).mono ?_
            rintro e w30 ⟨⟨mB, nB, hB, rfl, hMB, hB1, hB2, hB3⟩, C30⟩
            clear z5
            (try clear zh)
            have HTK30 := keepH (HTK.out.quiet C30)
            have HTA30 := keepH (HTA.out.quiet C30)
            have HTT := keepH (take_told HY.out.ok (r5 := y.r5) (r6 := y.r6) (r7 := y.r7) (kc := y.kc) (cb := tc) hh64 hMB (by omega) HN.out (HY.out.ks.chg HTK30.out.chg (fun _ _ _ x => x)) HA.out HTK30.out.ps HAL.out (fun k => fun x => HC5.out ⟨k, x⟩))
            have HBZ : Hid (∀ i, i < w7.heap.size → ¬ (i = nB ∨ i = hB)) := fun i hi => by omega
            clear hMB hB1 hB2 hB3 o0 o1 o2 o3 o4 o5 o6 o7 o8 o9 o10 t0 t1 t2 t3 t4 t5 t6
            have o0 : w30.cell? ⟨ob, 0, none⟩ = some (.int .u8 y.o.kd) := cell_of HTK30.out.op 0
            have o1 : w30.cell? ⟨ob, 1, none⟩ = some (.int .u64 (y.o.k : Int)) := cell_of HTK30.out.op 1
            have o2 : w30.cell? ⟨ob, 2, none⟩ = some (.int .u64 (y.o.v : Int)) := cell_of HTK30.out.op 2
            have o3 : w30.cell? ⟨ob, 3, none⟩ = some (.int .u64 (y.o.od : Int)) := cell_of HTK30.out.op 3
            have o4 : w30.cell? ⟨ob, 4, none⟩ = some (.int .u64 (y.o.hk : Int)) := cell_of HTK30.out.op 4
            have o5 : w30.cell? ⟨ob, 5, none⟩ = some (.bool y.r5) := cell_of HTK30.out.op 5
            have o6 : w30.cell? ⟨ob, 6, none⟩ = some (.int .i64 y.r6) := cell_of HTK30.out.op 6
            have o7 : w30.cell? ⟨ob, 7, none⟩ = some (.int .i64 y.r7) := cell_of HTK30.out.op 7
            have o8 : w30.cell? ⟨ob, 8, none⟩ = some (.slice y.kp y.o.ks.length y.kc) := cell_of HTK30.out.op 8
            have o9 : w30.cell? ⟨ob, 9, none⟩ = some (.int .u64 (y.o.lo : Int)) := cell_of HTK30.out.op 9
            have o10 : w30.cell? ⟨ob, 10, none⟩ = some (.int .u64 (y.o.hi : Int)) := cell_of HTK30.out.op 10
            have t0 : w30.cell? ⟨tb, 0, none⟩ = some (.int .i64 A.e) := cell_of HTK30.out.t 0
            have t1 : w30.cell? ⟨tb, 1, none⟩ = some (.bool A.f) := cell_of HTK30.out.t 1
            have t2 : w30.cell? ⟨tb, 2, none⟩ = some (.int .u64 (A.x : Int)) := cell_of HTK30.out.t 2
            have t3 : w30.cell? ⟨tb, 3, none⟩ = some (.bool A.d) := cell_of HTK30.out.t 3
            have t4 : w30.cell? ⟨tb, 4, none⟩ = some (.int .u64 (A.h : Int)) := cell_of HTK30.out.t 4
            have t5 : w30.cell? ⟨tb, 5, none⟩ = some (.slice tp A.l.length tc) := cell_of HTK30.out.t 5
            have t6 : w30.cell? ⟨tb, 6, none⟩ = some (.int .u64 (A.n : Int)) := cell_of HTK30.out.t 6
            go_wp2_with fail
            refine HTT.out.mono ?_
            rintro e w31 ⟨rfl, ⟨hb', gb', hMB, hpB⟩, C31⟩
            have HTK31 : Hid (TK w2 w31 m nw hd mS nS hS ob tb f h g n #[.int .u8 y.o.kd, .int .u64 (y.o.k : Int), .int .u64 (y.o.v : Int), .int .u64 (y.o.od : Int), .int .u64 (y.o.hk : Int), .bool y.r5, .int .i64 y.r6, .int .i64 y.r7, .slice y.kp y.o.ks.length y.kc, .int .u64 (y.o.lo : Int), .int .u64 (y.o.hi : Int)] #[.int .i64 A.e, .bool A.f, .int .u64 (A.x : Int), .bool A.d, .int .u64 (A.h : Int), .slice tp A.l.length tc, .int .u64 (A.n : Int)] tp A.l) := HTK.out.after (F := fun i => i = nB ∨ i = hB) (C30.trans C31 (fun _ _ x => x.elim) (fun _ _ x => x)) HBZ.out
            have HTA31 : Hid (MoAt w31 ma na ha 3 (doF y.o A f) h' g' (n + 1)) := HTA.out.after (F := fun i => i = nB ∨ i = hB) (C30.trans C31 (fun _ _ x => x.elim) (fun _ _ x => x)) HBZ.out
            have HS1 := keepH (same_true HTA31.out hMB (HPA.out.trans hpB.symm))
            clear hMB hpB C31 C30 o0 o1 o2 o3 o4 o5 o6 o7 o8 o9 o10 t0 t1 t2 t3 t4 t5 t6 HTT HTK30 HTA30
            go_wp2_with fail
            refine HS1.out.mono ?_
            rintro e w32 ⟨rfl, C32⟩
            have HTK32 := keepH (HTK31.out.quiet C32)
            have HS2 := keepH (same_true HTK32.out.mo HTK32.out.was rfl)
            clear C32 HS1 HTA31 HTK31
            go_wp2_with fail
            refine HS2.out.mono ?_
            rintro e w33 ⟨rfl, C33⟩
            have HTK33 := keepH (HTK32.out.quiet C33)
            clear C33 HS2 HTK32
            go_wp2_with fail
            go_loopw [14] (fun s wr => ∃ i : Nat, i ≤ X.length ∧ s = .int .i64 (i : Int) ∧ Hid (TK w2 wr m nw hd mS nS hS ob tb f h g n #[.int .u8 y.o.kd, .int .u64 (y.o.k : Int), .int .u64 (y.o.v : Int), .int .u64 (y.o.od : Int), .int .u64 (y.o.hk : Int), .bool y.r5, .int .i64 y.r6, .int .i64 y.r7, .slice y.kp y.o.ks.length y.kc, .int .u64 (y.o.lo : Int), .int .u64 (y.o.hi : Int)] #[.int .i64 A.e, .bool A.f, .int .u64 (A.x : Int), .bool A.d, .int .u64 (A.h : Int), .slice tp A.l.length tc, .int .u64 (A.n : Int)] tp A.l)) (fun s _ => X.length - natOf s)
            case atStart => exact ⟨0, Nat.zero_le _, rfl, HTK33⟩
            case round =>
              obtain ⟨i, hil, rfl, HX⟩ := hrel
              by_cases hlt : i < X.length
              · have q1 : (i : Int) < (X.length : Int) := by omega
                obtain ⟨x, hx⟩ : ∃ x, X[i]? = some x := ⟨X[i], List.getElem?_eq_getElem hlt⟩
                obtain ⟨bk, off, rfl, hok, hcs⟩ := HAX.out.get HX.out.chg hx
                have HK := keepH hok
                have x0 := hcs 0 _ rfl
                have x1 := hcs 1 _ rfl
                have x2 := hcs 2 _ rfl
                have x3 := hcs 3 _ rfl
                have x4 := hcs 4 _ rfl
                have x5 := hcs 5 _ rfl
                have x6 := hcs 6 _ rfl
                rw [Nat.add_zero] at x0
                obtain ⟨w40, hw40⟩ : ∃ w40, w40 = wr.alloc (.cells #[.int .i64 x.A.e, .bool x.A.f, .int .u64 (x.A.x : Int), .bool x.A.d, .int .u64 (x.A.h : Int), .slice x.p x.A.l.length x.c, .int .u64 (x.A.n : Int)] 40) := ⟨_, rfl⟩
                have C40 : Chg (fun _ => False) wr w40 := by rw [hw40]; exact (Chg.refl _ _).alloc _
                have HB40 : Hid (w40.heap[wr.heap.size]? = some (.cells #[.int .i64 x.A.e, .bool x.A.f, .int .u64 (x.A.x : Int), .bool x.A.d, .int .u64 (x.A.h : Int), .slice x.p x.A.l.length x.c, .int .u64 (x.A.n : Int)] 40 (0, 0))) := by rw [hw40]; exact heap_alloc_new _ _
                have HTK40 := keepH (HX.out.quiet C40)
                go_upto_region 26 with fail
                rw [← hw40]
                clear hw40 C40 hx hcs hok x0 x1 x2 x3 x4 x5 x6
                have o0 : w40.cell? ⟨ob, 0, none⟩ = some (.int .u8 y.o.kd) := cell_of HTK40.out.op 0
                have o1 : w40.cell? ⟨ob, 1, none⟩ = some (.int .u64 (y.o.k : Int)) := cell_of HTK40.out.op 1
                have o2 : w40.cell? ⟨ob, 2, none⟩ = some (.int .u64 (y.o.v : Int)) := cell_of HTK40.out.op 2
                have o3 : w40.cell? ⟨ob, 3, none⟩ = some (.int .u64 (y.o.od : Int)) := cell_of HTK40.out.op 3
                have o4 : w40.cell? ⟨ob, 4, none⟩ = some (.int .u64 (y.o.hk : Int)) := cell_of HTK40.out.op 4
                have o5 : w40.cell? ⟨ob, 5, none⟩ = some (.bool y.r5) := cell_of HTK40.out.op 5
                have o6 : w40.cell? ⟨ob, 6, none⟩ = some (.int .i64 y.r6) := cell_of HTK40.out.op 6
                have o7 : w40.cell? ⟨ob, 7, none⟩ = some (.int .i64 y.r7) := cell_of HTK40.out.op 7
                have o8 : w40.cell? ⟨ob, 8, none⟩ = some (.slice y.kp y.o.ks.length y.kc) := cell_of HTK40.out.op 8
                have o9 : w40.cell? ⟨ob, 9, none⟩ = some (.int .u64 (y.o.lo : Int)) := cell_of HTK40.out.op 9
                have o10 : w40.cell? ⟨ob, 10, none⟩ = some (.int .u64 (y.o.hi : Int)) := cell_of HTK40.out.op 10
                have t0 : w40.cell? ⟨tb, 0, none⟩ = some (.int .i64 A.e) := cell_of HTK40.out.t 0
                have t1 : w40.cell? ⟨tb, 1, none⟩ = some (.bool A.f) := cell_of HTK40.out.t 1
                have t2 : w40.cell? ⟨tb, 2, none⟩ = some (.int .u64 (A.x : Int)) := cell_of HTK40.out.t 2
                have t3 : w40.cell? ⟨tb, 3, none⟩ = some (.bool A.d) := cell_of HTK40.out.t 3
                have t4 : w40.cell? ⟨tb, 4, none⟩ = some (.int .u64 (A.h : Int)) := cell_of HTK40.out.t 4
                have t5 : w40.cell? ⟨tb, 5, none⟩ = some (.slice tp A.l.length tc) := cell_of HTK40.out.t 5
                have t6 : w40.cell? ⟨tb, 6, none⟩ = some (.int .u64 (A.n : Int)) := cell_of HTK40.out.t 6
                have d0 : w40.cell? ⟨wr.heap.size, 0, none⟩ = some (.int .i64 x.A.e) := cell_of HB40.out 0
                have d1 : w40.cell? ⟨wr.heap.size, 1, none⟩ = some (.bool x.A.f) := cell_of HB40.out 1
                have d2 : w40.cell? ⟨wr.heap.size, 2, none⟩ = some (.int .u64 (x.A.x : Int)) := cell_of HB40.out 2
                have d3 : w40.cell? ⟨wr.heap.size, 3, none⟩ = some (.bool x.A.d) := cell_of HB40.out 3
                have d4 : w40.cell? ⟨wr.heap.size, 4, none⟩ = some (.int .u64 (x.A.h : Int)) := cell_of HB40.out 4
                have d5 : w40.cell? ⟨wr.heap.size, 5, none⟩ = some (.slice x.p x.A.l.length x.c) := cell_of HB40.out 5
                have d6 : w40.cell? ⟨wr.heap.size, 6, none⟩ = some (.int .u64 (x.A.n : Int)) := cell_of HB40.out 6
                have HSA := keepH (m_sameL x.A.e A.e x.A.f A.f x.A.d A.d x.A.x A.x x.A.h A.h x.A.n A.n x.p tp x.c tc x.A.l A.l w40 (HK.out.ps.chg HTK40.out.chg) HTK40.out.ps HK.out.pl HAL.out)
                by_cases hs : x.A = A
                · have e1 : decide ((⟨x.A.e, x.A.f, x.A.x, x.A.d, x.A.h, x.A.l, x.A.n⟩ : Ans) = ⟨A.e, A.f, A.x, A.d, A.h, A.l, A.n⟩) = true := decide_eq_true hs
                  rw [e1] at HSA
                  clear e1 hs
                  go_wp2_with fail
                  refine HSA.out.mono ?_
                  rintro e w41 ⟨rfl, C41⟩
                  have HTK41 := keepH (HTK40.out.quiet C41)
                  clear C41
                  go_wp2_with fail
                  go_roundw
                  case rel => exact ⟨i + 1, by omega, by first | rfl | go_num, HTK41⟩
                  case measure => exact meas hlt
                · have e1 : decide ((⟨x.A.e, x.A.f, x.A.x, x.A.d, x.A.h, x.A.l, x.A.n⟩ : Ans) = ⟨A.e, A.f, A.x, A.d, A.h, A.l, A.n⟩) = false := decide_eq_false hs
                  rw [e1] at HSA
                  have HNS := keepH hs
                  clear e1 hs
                  go_wp2_with fail
                  refine HSA.out.mono ?_
                  rintro e w41 ⟨rfl, C41⟩
                  have HTK41 := keepH (HTK40.out.quiet C41)
                  have HB41 := keepH ((C41.block _ (lt_of HB40.out) (fun x => x)).trans HB40.out)
                  clear C41 o0 o1 o2 o3 o4 o5 o6 o7 o8 o9 o10 t0 t1 t2 t3 t4 t5 t6 d0 d1 d2 d3 d4 d5 d6
                  have o0 : w41.cell? ⟨ob, 0, none⟩ = some (.int .u8 y.o.kd) := cell_of HTK41.out.op 0
                  have o1 : w41.cell? ⟨ob, 1, none⟩ = some (.int .u64 (y.o.k : Int)) := cell_of HTK41.out.op 1
                  have o2 : w41.cell? ⟨ob, 2, none⟩ = some (.int .u64 (y.o.v : Int)) := cell_of HTK41.out.op 2
                  have o3 : w41.cell? ⟨ob, 3, none⟩ = some (.int .u64 (y.o.od : Int)) := cell_of HTK41.out.op 3
                  have o4 : w41.cell? ⟨ob, 4, none⟩ = some (.int .u64 (y.o.hk : Int)) := cell_of HTK41.out.op 4
                  have o5 : w41.cell? ⟨ob, 5, none⟩ = some (.bool y.r5) := cell_of HTK41.out.op 5
                  have o6 : w41.cell? ⟨ob, 6, none⟩ = some (.int .i64 y.r6) := cell_of HTK41.out.op 6
                  have o7 : w41.cell? ⟨ob, 7, none⟩ = some (.int .i64 y.r7) := cell_of HTK41.out.op 7
                  have o8 : w41.cell? ⟨ob, 8, none⟩ = some (.slice y.kp y.o.ks.length y.kc) := cell_of HTK41.out.op 8
                  have o9 : w41.cell? ⟨ob, 9, none⟩ = some (.int .u64 (y.o.lo : Int)) := cell_of HTK41.out.op 9
                  have o10 : w41.cell? ⟨ob, 10, none⟩ = some (.int .u64 (y.o.hi : Int)) := cell_of HTK41.out.op 10
                  have t0 : w41.cell? ⟨tb, 0, none⟩ = some (.int .i64 A.e) := cell_of HTK41.out.t 0
                  have t1 : w41.cell? ⟨tb, 1, none⟩ = some (.bool A.f) := cell_of HTK41.out.t 1
                  have t2 : w41.cell? ⟨tb, 2, none⟩ = some (.int .u64 (A.x : Int)) := cell_of HTK41.out.t 2
                  have t3 : w41.cell? ⟨tb, 3, none⟩ = some (.bool A.d) := cell_of HTK41.out.t 3
                  have t4 : w41.cell? ⟨tb, 4, none⟩ = some (.int .u64 (A.h : Int)) := cell_of HTK41.out.t 4
                  have t5 : w41.cell? ⟨tb, 5, none⟩ = some (.slice tp A.l.length tc) := cell_of HTK41.out.t 5
                  have t6 : w41.cell? ⟨tb, 6, none⟩ = some (.int .u64 (A.n : Int)) := cell_of HTK41.out.t 6
                  have d0 : w41.cell? ⟨wr.heap.size, 0, none⟩ = some (.int .i64 x.A.e) := cell_of HB41.out 0
                  have d1 : w41.cell? ⟨wr.heap.size, 1, none⟩ = some (.bool x.A.f) := cell_of HB41.out 1
                  have d2 : w41.cell? ⟨wr.heap.size, 2, none⟩ = some (.int .u64 (x.A.x : Int)) := cell_of HB41.out 2
                  have d3 : w41.cell? ⟨wr.heap.size, 3, none⟩ = some (.bool x.A.d) := cell_of HB41.out 3
                  have d4 : w41.cell? ⟨wr.heap.size, 4, none⟩ = some (.int .u64 (x.A.h : Int)) := cell_of HB41.out 4
                  have d5 : w41.cell? ⟨wr.heap.size, 5, none⟩ = some (.slice x.p x.A.l.length x.c) := cell_of HB41.out 5
                  have d6 : w41.cell? ⟨wr.heap.size, 6, none⟩ = some (.int .u64 (x.A.n : Int)) := cell_of HB41.out 6
                  by_cases k5 : y.o.kd = 5
                  · have y5 : (y.o.kd == 5) = true := by simpa using k5
                    clear k5
                    go_wp2_with fail
                    go_roundw
                    case rel => exact ⟨i + 1, by omega, by first | rfl | go_num, HTK41⟩
                    case measure => exact meas hlt
                  · have y5 : (y.o.kd == 5) = false := by simpa using k5
                    by_cases k10 : y.o.kd = 10
                    · have y10 : (y.o.kd == 10) = true := by simpa using k10
                      clear k5 k10
                      go_wp2_with fail
                      go_roundw
                      case rel => exact ⟨i + 1, by omega, by first | rfl | go_num, HTK41⟩
                      case measure => exact meas hlt
                    · have y10 : (y.o.kd == 10) = false := by simpa using k10
                      have eA : A = tellP 3 f (pcs h g) y.o x.A.h := HA.out.trans (tellP_any 3 f _ y.o hn x.A.h k5)
                      have HKS := keepH (HY.out.ks.chg HTK41.out.chg (fun _ _ _ x => x))
                      have HPX := keepH (HK.out.ps.chg HTK41.out.chg)
                      cases hm : mayP y.o.kd x.A.e A.e with
                      | false =>
                        have HTN := keepH (take_noB HY.out.ok (r5 := y.r5) (r6 := y.r6) (r7 := y.r7) (kc := y.kc) (cb := x.c) HK.out.h HTK41.out.mo (by omega) HN.out HKS.out HPX.out HK.out.pl eA hm k5 k10 HNS.out)
                        clear eA hm k5 k10
                        go_wp2_with fail
                        refine HTN.out.mono ?_
                        rintro e w42 ⟨rfl, C42⟩
                        have HTK42 := keepH (HTK41.out.quiet C42)
                        clear C42
                        go_wp2_with fail
                        go_roundw
                        case rel => exact ⟨i + 1, by omega, by first | rfl | go_num, HTK42⟩
                        case measure => exact meas hlt
                      | true =>
                        have he : x.A.e = 30 ∨ x.A.e = 34 := by
                          unfold mayP at hm
                          by_cases q1 : x.A.e = 30
                          · exact .inl q1
                          · rw [if_neg q1] at hm
                            by_cases q2 : x.A.e = 32 ∨ x.A.e = 31
                            · rw [if_pos q2] at hm
                              simp at hm
                              exact absurd hm k5
                            · rw [if_neg q2] at hm
                              by_cases q3 : x.A.e = 34
                              · exact .inr q3
                              · rw [if_neg q3] at hm
                                cases hm
                        obtain ⟨bb, hbb⟩ : ∃ bb : Bool, bb = decide (x.A = (⟨x.A.e, false, 0, false, 0, [], 0⟩ : Ans)) := ⟨_, rfl⟩
                        have HTN := keepH (take_fail HY.out.ok (r5 := y.r5) (r6 := y.r6) (r7 := y.r7) (kc := y.kc) (cb := x.c) HK.out.h HTK41.out.mo (by omega) HN.out HKS.out HPX.out HK.out.pl eA hm hbb)
                        have HHE := keepH he
                        clear eA hm k5 k10 he hbb
                        cases bb with
                        | false =>
                          go_wp2_with fail
                          refine HTN.out.mono ?_
                          rintro e w42 ⟨rfl, C42⟩
                          have HTK42 := keepH (HTK41.out.quiet C42)
                          clear C42
                          go_wp2_with fail
                          go_roundw
                          case rel => exact ⟨i + 1, by omega, by first | rfl | go_num, HTK42⟩
                          case measure => exact meas hlt
                        | true =>
                          go_wp2_with fail
                          refine HTN.out.mono ?_
                          rintro e w42 ⟨rfl, C42⟩
                          have HTK42 := keepH (HTK41.out.quiet C42)
                          have d0q : w42.cell? ⟨wr.heap.size, 0, none⟩ = some (.int .i64 x.A.e) := cell_of ((C42.block _ (lt_of HB41.out) (fun x => x)).trans HB41.out) 0
                          have HS5 := keepH (same_true HTK42.out.mo HTK42.out.was rfl)
                          clear C42
                          have hz : ((x.A.e != 30) = false) ∨ ((x.A.e != 30) = true ∧ (x.A.e != 34) = false) := by
                            rcases HHE.out with q | q
                            · exact .inl (by simp [q])
                            · exact .inr ⟨by simp [q], by simp [q]⟩
                          rcases hz with v1 | ⟨v1, v2⟩
                          all_goals (
                            go_wp2_with fail
                            refine HS5.out.mono ?_
                            rintro e w43 ⟨rfl, C43⟩
                            have HTK43 := keepH (HTK42.out.quiet C43)
                            clear C43
                            go_wp2_with fail
                            go_roundw
                            case rel => exact ⟨i + 1, by omega, by first | rfl | go_num, HTK43⟩
                            case measure => exact meas hlt)
              · have q1 : ¬ (i : Int) < (X.length : Int) := by omega
                have HS6 := keepH (same_true HX.out.mo HX.out.was rfl)
                go_wp2_with fail
                refine HS6.out.mono ?_
                rintro e w50 ⟨rfl, C50⟩
                have HC50 : Hid (Chg (fun _ => False) W w50) := (HC2.out.trans HX.out.chg (H := fun _ => False) (fun _ _ x => x) (fun _ _ x => x)).trans C50 (fun _ _ x => x) (fun _ _ x => x)
                clear C50
                go_wp2_with fail
                go_ret
                exact ⟨by simp, HC50.out⟩)
      · have ze : (A.e != 0) = true := by simpa using e0
        have id := do_idle y.o A f (pcs h g) (.inl e0)
        have HSM0 := keepH (same_true HTA.out (by rw [id.1]; exact HTK.out.mo) (HPA.out.trans id.2))
        have t0 : w7.cell? ⟨tb, 0, none⟩ = some (.int .i64 A.e) := cell_of HTK.out.t 0
        clear e0 id
        go_wp2_with fail
        refine HSM0.out.mono ?_
        rintro e w8 ⟨rfl, C8⟩
        obtain ⟨w9, hw9⟩ : ∃ w9, w9 = w8 := ⟨_, rfl⟩
        have HTK9 := keepH (HTK.out.quiet C8)
        have HTA9 := keepH (HTA.out.quiet C8)
        clear C8 t0 HSM0 HTK HTA
        have HTK := HTK9
        have HTA := HTA9
        clear HTK9 HTA9 hw9
        by_cases c5 : y.o.kd = 5 ∧ hn = 0
        · obtain ⟨k5, h0⟩ := c5
          have eA : A = ⟨0, false, 0, false, 0, [], 0⟩ := by
            have e5 := tellP_5 3 f (pcs h g) y.o hn k5
            rw [← HA.out, h0, if_neg (by simp [pcs, HZ.out])] at e5
            exact e5
          have id := do_idle y.o A f (pcs h g) (.inr ⟨k5, by rw [eA]⟩)
          have z5 : (y.o.kd == 5) = true := by simpa using k5
          have zh : ((hn : Int) == 0) = true := by simp [h0]
          have za : ((A.h : Int) == 0) = true := by rw [eA]; rfl
          have ze : (A.e == 0) = true := by rw [eA]; rfl
          have HSM := keepH (same_true HTA.out (by rw [id.1]; exact HTK.out.mo) (HPA.out.trans id.2))
          have HK5 := keepH k5
          have HEA := keepH eA
          have o0 : w8.cell? ⟨ob, 0, none⟩ = some (.int .u8 y.o.kd) := cell_of HTK.out.op 0
          have o1 : w8.cell? ⟨ob, 1, none⟩ = some (.int .u64 (y.o.k : Int)) := cell_of HTK.out.op 1
          have o2 : w8.cell? ⟨ob, 2, none⟩ = some (.int .u64 (y.o.v : Int)) := cell_of HTK.out.op 2
          have o3 : w8.cell? ⟨ob, 3, none⟩ = some (.int .u64 (y.o.od : Int)) := cell_of HTK.out.op 3
          have o4 : w8.cell? ⟨ob, 4, none⟩ = some (.int .u64 (y.o.hk : Int)) := cell_of HTK.out.op 4
          have o5 : w8.cell? ⟨ob, 5, none⟩ = some (.bool y.r5) := cell_of HTK.out.op 5
          have o6 : w8.cell? ⟨ob, 6, none⟩ = some (.int .i64 y.r6) := cell_of HTK.out.op 6
          have o7 : w8.cell? ⟨ob, 7, none⟩ = some (.int .i64 y.r7) := cell_of HTK.out.op 7
          have o8 : w8.cell? ⟨ob, 8, none⟩ = some (.slice y.kp y.o.ks.length y.kc) := cell_of HTK.out.op 8
          have o9 : w8.cell? ⟨ob, 9, none⟩ = some (.int .u64 (y.o.lo : Int)) := cell_of HTK.out.op 9
          have o10 : w8.cell? ⟨ob, 10, none⟩ = some (.int .u64 (y.o.hi : Int)) := cell_of HTK.out.op 10
          have t0 : w8.cell? ⟨tb, 0, none⟩ = some (.int .i64 A.e) := cell_of HTK.out.t 0
          have t1 : w8.cell? ⟨tb, 1, none⟩ = some (.bool A.f) := cell_of HTK.out.t 1
          have t2 : w8.cell? ⟨tb, 2, none⟩ = some (.int .u64 (A.x : Int)) := cell_of HTK.out.t 2
          have t3 : w8.cell? ⟨tb, 3, none⟩ = some (.bool A.d) := cell_of HTK.out.t 3
          have t4 : w8.cell? ⟨tb, 4, none⟩ = some (.int .u64 (A.h : Int)) := cell_of HTK.out.t 4
          have t5 : w8.cell? ⟨tb, 5, none⟩ = some (.slice tp A.l.length tc) := cell_of HTK.out.t 5
          have t6 : w8.cell? ⟨tb, 6, none⟩ = some (.int .u64 (A.n : Int)) := cell_of HTK.out.t 6
          clear k5 h0 id eA
          go_wp2_with fail
          refine HSM.out.mono ?_
          rintro e w20 ⟨rfl, C20⟩
          have HTK20 := keepH (HTK.out.quiet C20)
          have HTN := keepH (take_no5 HY.out.ok (r5 := y.r5) (r6 := y.r6) (r7 := y.r7) (kc := y.kc) (cb := tc) (B := A) (by rw [HEA.out]; decide) HTK20.out.mo (by omega) HN.out (HY.out.ks.chg HTK20.out.chg (fun _ _ _ x => x)) HTK20.out.ps (by rw [HEA.out]; simp) (A := tellP 3 f (pcs h g) y.o A.h) rfl (by rw [HK5.out, HEA.out]; rfl) HK5.out (by rw [HEA.out]))
          clear o0 o1 o2 o3 o4 o5 o6 o7 o8 o9 o10 t0 t1 t2 t3 t4 t5 t6 C20
          have o0 : w20.cell? ⟨ob, 0, none⟩ = some (.int .u8 y.o.kd) := cell_of HTK20.out.op 0
          have o1 : w20.cell? ⟨ob, 1, none⟩ = some (.int .u64 (y.o.k : Int)) := cell_of HTK20.out.op 1
          have o2 : w20.cell? ⟨ob, 2, none⟩ = some (.int .u64 (y.o.v : Int)) := cell_of HTK20.out.op 2
          have o3 : w20.cell? ⟨ob, 3, none⟩ = some (.int .u64 (y.o.od : Int)) := cell_of HTK20.out.op 3
          have o4 : w20.cell? ⟨ob, 4, none⟩ = some (.int .u64 (y.o.hk : Int)) := cell_of HTK20.out.op 4
          have o5 : w20.cell? ⟨ob, 5, none⟩ = some (.bool y.r5) := cell_of HTK20.out.op 5
          have o6 : w20.cell? ⟨ob, 6, none⟩ = some (.int .i64 y.r6) := cell_of HTK20.out.op 6
          have o7 : w20.cell? ⟨ob, 7, none⟩ = some (.int .i64 y.r7) := cell_of HTK20.out.op 7
          have o8 : w20.cell? ⟨ob, 8, none⟩ = some (.slice y.kp y.o.ks.length y.kc) := cell_of HTK20.out.op 8
          have o9 : w20.cell? ⟨ob, 9, none⟩ = some (.int .u64 (y.o.lo : Int)) := cell_of HTK20.out.op 9
          have o10 : w20.cell? ⟨ob, 10, none⟩ = some (.int .u64 (y.o.hi : Int)) := cell_of HTK20.out.op 10
          have t0 : w20.cell? ⟨tb, 0, none⟩ = some (.int .i64 A.e) := cell_of HTK20.out.t 0
          have t1 : w20.cell? ⟨tb, 1, none⟩ = some (.bool A.f) := cell_of HTK20.out.t 1
          have t2 : w20.cell? ⟨tb, 2, none⟩ = some (.int .u64 (A.x : Int)) := cell_of HTK20.out.t 2
          have t3 : w20.cell? ⟨tb, 3, none⟩ = some (.bool A.d) := cell_of HTK20.out.t 3
          have t4 : w20.cell? ⟨tb, 4, none⟩ = some (.int .u64 (A.h : Int)) := cell_of HTK20.out.t 4
          have t5 : w20.cell? ⟨tb, 5, none⟩ = some (.slice tp A.l.length tc) := cell_of HTK20.out.t 5
          have t6 : w20.cell? ⟨tb, 6, none⟩ = some (.int .u64 (A.n : Int)) := cell_of HTK20.out.t 6
          go_wp2_with fail
          refine HTN.out.mono ?_
          rintro e w21 ⟨rfl, C21⟩
          have HC21 : Hid (Chg (fun _ => False) W w21) := (HC2.out.trans HTK20.out.chg (H := fun _ => False) (fun _ _ x => x) (fun _ _ x => x)).trans C21 (fun _ _ x => x) (fun _ _ x => x)
          clear C21
          go_wp2_with fail
          go_ret
          exact ⟨by simp, HC21.out⟩
        · have HC5 := keepH c5
          have hcs : ((y.o.kd == 5) = false) ∨ ((y.o.kd == 5) = true ∧ ((hn : Int) == 0) = false) := by
            by_cases k5 : y.o.kd = 5
            · exact .inr ⟨by simpa using k5, by
                have : ¬ hn = 0 := fun x => c5 ⟨k5, x⟩
                simp
                omega⟩
            · exact .inl (by simpa using k5)
          clear c5
          have o0 : w8.cell? ⟨ob, 0, none⟩ = some (.int .u8 y.o.kd) := cell_of HTK.out.op 0
          have o1 : w8.cell? ⟨ob, 1, none⟩ = some (.int .u64 (y.o.k : Int)) := cell_of HTK.out.op 1
          have o2 : w8.cell? ⟨ob, 2, none⟩ = some (.int .u64 (y.o.v : Int)) := cell_of HTK.out.op 2
          have o3 : w8.cell? ⟨ob, 3, none⟩ = some (.int .u64 (y.o.od : Int)) := cell_of HTK.out.op 3
          have o4 : w8.cell? ⟨ob, 4, none⟩ = some (.int .u64 (y.o.hk : Int)) := cell_of HTK.out.op 4
          have o5 : w8.cell? ⟨ob, 5, none⟩ = some (.bool y.r5) := cell_of HTK.out.op 5
          have o6 : w8.cell? ⟨ob, 6, none⟩ = some (.int .i64 y.r6) := cell_of HTK.out.op 6
          have o7 : w8.cell? ⟨ob, 7, none⟩ = some (.int .i64 y.r7) := cell_of HTK.out.op 7
          have o8 : w8.cell? ⟨ob, 8, none⟩ = some (.slice y.kp y.o.ks.length y.kc) := cell_of HTK.out.op 8
          have o9 : w8.cell? ⟨ob, 9, none⟩ = some (.int .u64 (y.o.lo : Int)) := cell_of HTK.out.op 9
          have o10 : w8.cell? ⟨ob, 10, none⟩ = some (.int .u64 (y.o.hi : Int)) := cell_of HTK.out.op 10
          have t0 : w8.cell? ⟨tb, 0, none⟩ = some (.int .i64 A.e) := cell_of HTK.out.t 0
          have t1 : w8.cell? ⟨tb, 1, none⟩ = some (.bool A.f) := cell_of HTK.out.t 1
          have t2 : w8.cell? ⟨tb, 2, none⟩ = some (.int .u64 (A.x : Int)) := cell_of HTK.out.t 2
          have t3 : w8.cell? ⟨tb, 3, none⟩ = some (.bool A.d) := cell_of HTK.out.t 3
          have t4 : w8.cell? ⟨tb, 4, none⟩ = some (.int .u64 (A.h : Int)) := cell_of HTK.out.t 4
          have t5 : w8.cell? ⟨tb, 5, none⟩ = some (.slice tp A.l.length tc) := cell_of HTK.out.t 5
          have t6 : w8.cell? ⟨tb, 6, none⟩ = some (.int .u64 (A.n : Int)) := cell_of HTK.out.t 6
          rcases hcs with z5 | ⟨z5, zh⟩
          all_goals (
            go_wp2_with fail
            refine (m_fork HTK.out.mo).mono ?_
            rintro e w30 ⟨⟨mB, nB, hB, rfl, hMB, hB1, hB2, hB3⟩, C30⟩
            clear z5
            (try clear zh)
            have HTK30 := keepH (HTK.out.quiet C30)
            have HTA30 := keepH (HTA.out.quiet C30)
            have HTT := keepH (take_told HY.out.ok (r5 := y.r5) (r6 := y.r6) (r7 := y.r7) (kc := y.kc) (cb := tc) hh64 hMB (by omega) HN.out (HY.out.ks.chg HTK30.out.chg (fun _ _ _ x => x)) HA.out HTK30.out.ps HAL.out (fun k => fun x => HC5.out ⟨k, x⟩))
            have HBZ : Hid (∀ i, i < w8.heap.size → ¬ (i = nB ∨ i = hB)) := fun i hi => by omega
            clear hMB hB1 hB2 hB3 o0 o1 o2 o3 o4 o5 o6 o7 o8 o9 o10 t0 t1 t2 t3 t4 t5 t6
            have o0 : w30.cell? ⟨ob, 0, none⟩ = some (.int .u8 y.o.kd) := cell_of HTK30.out.op 0
            have o1 : w30.cell? ⟨ob, 1, none⟩ = some (.int .u64 (y.o.k : Int)) := cell_of HTK30.out.op 1
            have o2 : w30.cell? ⟨ob, 2, none⟩ = some (.int .u64 (y.o.v : Int)) := cell_of HTK30.out.op 2
            have o3 : w30.cell? ⟨ob, 3, none⟩ = some (.int .u64 (y.o.od : Int)) := cell_of HTK30.out.op 3
            have o4 : w30.cell? ⟨ob, 4, none⟩ = some (.int .u64 (y.o.hk : Int)) := cell_of HTK30.out.op 4
            have o5 : w30.cell? ⟨ob, 5, none⟩ = some (.bool y.r5) := cell_of HTK30.out.op 5
            have o6 : w30.cell? ⟨ob, 6, none⟩ = some (.int .i64 y.r6) := cell_of HTK30.out.op 6
            have o7 : w30.cell? ⟨ob, 7, none⟩ = some (.int .i64 y.r7) := cell_of HTK30.out.op 7
            have o8 : w30.cell? ⟨ob, 8, none⟩ = some (.slice y.kp y.o.ks.length y.kc) := cell_of HTK30.out.op 8
            have o9 : w30.cell? ⟨ob, 9, none⟩ = some (.int .u64 (y.o.lo : Int)) := cell_of HTK30.out.op 9
            have o10 : w30.cell? ⟨ob, 10, none⟩ = some (.int .u64 (y.o.hi : Int)) := cell_of HTK30.out.op 10
            have t0 : w30.cell? ⟨tb, 0, none⟩ = some (.int .i64 A.e) := cell_of HTK30.out.t 0
            have t1 : w30.cell? ⟨tb, 1, none⟩ = some (.bool A.f) := cell_of HTK30.out.t 1
            have t2 : w30.cell? ⟨tb, 2, none⟩ = some (.int .u64 (A.x : Int)) := cell_of HTK30.out.t 2
            have t3 : w30.cell? ⟨tb, 3, none⟩ = some (.bool A.d) := cell_of HTK30.out.t 3
            have t4 : w30.cell? ⟨tb, 4, none⟩ = some (.int .u64 (A.h : Int)) := cell_of HTK30.out.t 4
            have t5 : w30.cell? ⟨tb, 5, none⟩ = some (.slice tp A.l.length tc) := cell_of HTK30.out.t 5
            have t6 : w30.cell? ⟨tb, 6, none⟩ = some (.int .u64 (A.n : Int)) := cell_of HTK30.out.t 6
            go_wp2_with fail
            refine HTT.out.mono ?_
            rintro e w31 ⟨rfl, ⟨hb', gb', hMB, hpB⟩, C31⟩
            have HTK31 : Hid (TK w2 w31 m nw hd mS nS hS ob tb f h g n #[.int .u8 y.o.kd, .int .u64 (y.o.k : Int), .int .u64 (y.o.v : Int), .int .u64 (y.o.od : Int), .int .u64 (y.o.hk : Int), .bool y.r5, .int .i64 y.r6, .int .i64 y.r7, .slice y.kp y.o.ks.length y.kc, .int .u64 (y.o.lo : Int), .int .u64 (y.o.hi : Int)] #[.int .i64 A.e, .bool A.f, .int .u64 (A.x : Int), .bool A.d, .int .u64 (A.h : Int), .slice tp A.l.length tc, .int .u64 (A.n : Int)] tp A.l) := HTK.out.after (F := fun i => i = nB ∨ i = hB) (C30.trans C31 (fun _ _ x => x.elim) (fun _ _ x => x)) HBZ.out
            have HTA31 : Hid (MoAt w31 ma na ha 3 (doF y.o A f) h' g' (n + 1)) := HTA.out.after (F := fun i => i = nB ∨ i = hB) (C30.trans C31 (fun _ _ x => x.elim) (fun _ _ x => x)) HBZ.out
            have HS1 := keepH (same_true HTA31.out hMB (HPA.out.trans hpB.symm))
            clear hMB hpB C31 C30 o0 o1 o2 o3 o4 o5 o6 o7 o8 o9 o10 t0 t1 t2 t3 t4 t5 t6 HTT HTK30 HTA30
            go_wp2_with fail
            refine HS1.out.mono ?_
            rintro e w32 ⟨rfl, C32⟩
            have HTK32 := keepH (HTK31.out.quiet C32)
            have HS2 := keepH (same_true HTK32.out.mo HTK32.out.was rfl)
            clear C32 HS1 HTA31 HTK31
            go_wp2_with fail
            refine HS2.out.mono ?_
            rintro e w33 ⟨rfl, C33⟩
            have HTK33 := keepH (HTK32.out.quiet C33)
            clear C33 HS2 HTK32
            go_wp2_with fail
            go_loopw [14] (fun s wr => ∃ i : Nat, i ≤ X.length ∧ s = .int .i64 (i : Int) ∧ Hid (TK w2 wr m nw hd mS nS hS ob tb f h g n #[.int .u8 y.o.kd, .int .u64 (y.o.k : Int), .int .u64 (y.o.v : Int), .int .u64 (y.o.od : Int), .int .u64 (y.o.hk : Int), .bool y.r5, .int .i64 y.r6, .int .i64 y.r7, .slice y.kp y.o.ks.length y.kc, .int .u64 (y.o.lo : Int), .int .u64 (y.o.hi : Int)] #[.int .i64 A.e, .bool A.f, .int .u64 (A.x : Int), .bool A.d, .int .u64 (A.h : Int), .slice tp A.l.length tc, .int .u64 (A.n : Int)] tp A.l)) (fun s _ => X.length - natOf s)
            case atStart => exact ⟨0, Nat.zero_le _, rfl, HTK33⟩
            case round =>
              obtain ⟨i, hil, rfl, HX⟩ := hrel
              by_cases hlt : i < X.length
              · have q1 : (i : Int) < (X.length : Int) := by omega
                obtain ⟨x, hx⟩ : ∃ x, X[i]? = some x := ⟨X[i], List.getElem?_eq_getElem hlt⟩
                obtain ⟨bk, off, rfl, hok, hcs⟩ := HAX.out.get HX.out.chg hx
                have HK := keepH hok
                have x0 := hcs 0 _ rfl
                have x1 := hcs 1 _ rfl
                have x2 := hcs 2 _ rfl
                have x3 := hcs 3 _ rfl
                have x4 := hcs 4 _ rfl
                have x5 := hcs 5 _ rfl
                have x6 := hcs 6 _ rfl
                rw [Nat.add_zero] at x0
                obtain ⟨w40, hw40⟩ : ∃ w40, w40 = wr.alloc (.cells #[.int .i64 x.A.e, .bool x.A.f, .int .u64 (x.A.x : Int), .bool x.A.d, .int .u64 (x.A.h : Int), .slice x.p x.A.l.length x.c, .int .u64 (x.A.n : Int)] 40) := ⟨_, rfl⟩
                have C40 : Chg (fun _ => False) wr w40 := by rw [hw40]; exact (Chg.refl _ _).alloc _
                have HB40 : Hid (w40.heap[wr.heap.size]? = some (.cells #[.int .i64 x.A.e, .bool x.A.f, .int .u64 (x.A.x : Int), .bool x.A.d, .int .u64 (x.A.h : Int), .slice x.p x.A.l.length x.c, .int .u64 (x.A.n : Int)] 40 (0, 0))) := by rw [hw40]; exact heap_alloc_new _ _
                have HTK40 := keepH (HX.out.quiet C40)
                go_upto_region 26 with fail
                rw [← hw40]
                clear hw40 C40 hx hcs hok x0 x1 x2 x3 x4 x5 x6
                have o0 : w40.cell? ⟨ob, 0, none⟩ = some (.int .u8 y.o.kd) := cell_of HTK40.out.op 0
                have o1 : w40.cell? ⟨ob, 1, none⟩ = some (.int .u64 (y.o.k : Int)) := cell_of HTK40.out.op 1
                have o2 : w40.cell? ⟨ob, 2, none⟩ = some (.int .u64 (y.o.v : Int)) := cell_of HTK40.out.op 2
                have o3 : w40.cell? ⟨ob, 3, none⟩ = some (.int .u64 (y.o.od : Int)) := cell_of HTK40.out.op 3
                have o4 : w40.cell? ⟨ob, 4, none⟩ = some (.int .u64 (y.o.hk : Int)) := cell_of HTK40.out.op 4
                have o5 : w40.cell? ⟨ob, 5, none⟩ = some (.bool y.r5) := cell_of HTK40.out.op 5
                have o6 : w40.cell? ⟨ob, 6, none⟩ = some (.int .i64 y.r6) := cell_of HTK40.out.op 6
                have o7 : w40.cell? ⟨ob, 7, none⟩ = some (.int .i64 y.r7) := cell_of HTK40.out.op 7
                have o8 : w40.cell? ⟨ob, 8, none⟩ = some (.slice y.kp y.o.ks.length y.kc) := cell_of HTK40.out.op 8
                have o9 : w40.cell? ⟨ob, 9, none⟩ = some (.int .u64 (y.o.lo : Int)) := cell_of HTK40.out.op 9
                have o10 : w40.cell? ⟨ob, 10, none⟩ = some (.int .u64 (y.o.hi : Int)) := cell_of HTK40.out.op 10
                have t0 : w40.cell? ⟨tb, 0, none⟩ = some (.int .i64 A.e) := cell_of HTK40.out.t 0
                have t1 : w40.cell? ⟨tb, 1, none⟩ = some (.bool A.f) := cell_of HTK40.out.t 1
                have t2 : w40.cell? ⟨tb, 2, none⟩ = some (.int .u64 (A.x : Int)) := cell_of HTK40.out.t 2
                have t3 : w40.cell? ⟨tb, 3, none⟩ = some (.bool A.d) := cell_of HTK40.out.t 3
                have t4 : w40.cell? ⟨tb, 4, none⟩ = some (.int .u64 (A.h : Int)) := cell_of HTK40.out.t 4
                have t5 : w40.cell? ⟨tb, 5, none⟩ = some (.slice tp A.l.length tc) := cell_of HTK40.out.t 5
                have t6 : w40.cell? ⟨tb, 6, none⟩ = some (.int .u64 (A.n : Int)) := cell_of HTK40.out.t 6
                have d0 : w40.cell? ⟨wr.heap.size, 0, none⟩ = some (.int .i64 x.A.e) := cell_of HB40.out 0
                have d1 : w40.cell? ⟨wr.heap.size, 1, none⟩ = some (.bool x.A.f) := cell_of HB40.out 1
                have d2 : w40.cell? ⟨wr.heap.size, 2, none⟩ = some (.int .u64 (x.A.x : Int)) := cell_of HB40.out 2
                have d3 : w40.cell? ⟨wr.heap.size, 3, none⟩ = some (.bool x.A.d) := cell_of HB40.out 3
                have d4 : w40.cell? ⟨wr.heap.size, 4, none⟩ = some (.int .u64 (x.A.h : Int)) := cell_of HB40.out 4
                have d5 : w40.cell? ⟨wr.heap.size, 5, none⟩ = some (.slice x.p x.A.l.length x.c) := cell_of HB40.out 5
                have d6 : w40.cell? ⟨wr.heap.size, 6, none⟩ = some (.int .u64 (x.A.n : Int)) := cell_of HB40.out 6
                have HSA := keepH (m_sameL x.A.e A.e x.A.f A.f x.A.d A.d x.A.x A.x x.A.h A.h x.A.n A.n x.p tp x.c tc x.A.l A.l w40 (HK.out.ps.chg HTK40.out.chg) HTK40.out.ps HK.out.pl HAL.out)
                by_cases hs : x.A = A
                · have e1 : decide ((⟨x.A.e, x.A.f, x.A.x, x.A.d, x.A.h, x.A.l, x.A.n⟩ : Ans) = ⟨A.e, A.f, A.x, A.d, A.h, A.l, A.n⟩) = true := decide_eq_true hs
                  rw [e1] at HSA
                  clear e1 hs
                  go_wp2_with fail
                  refine HSA.out.mono ?_
                  rintro e w41 ⟨rfl, C41⟩
                  have HTK41 := keepH (HTK40.out.quiet C41)
                  clear C41
                  go_wp2_with fail
                  go_roundw
                  case rel => exact ⟨i + 1, by omega, by first | rfl | go_num, HTK41⟩
                  case measure => exact meas hlt
                · have e1 : decide ((⟨x.A.e, x.A.f, x.A.x, x.A.d, x.A.h, x.A.l, x.A.n⟩ : Ans) = ⟨A.e, A.f, A.x, A.d, A.h, A.l, A.n⟩) = false := decide_eq_false hs
                  rw [e1] at HSA
                  have HNS := keepH hs
                  clear e1 hs
                  go_wp2_with fail
                  refine HSA.out.mono ?_
                  rintro e w41 ⟨rfl, C41⟩
                  have HTK41 := keepH (HTK40.out.quiet C41)
                  have HB41 := keepH ((C41.block _ (lt_of HB40.out) (fun x => x)).trans HB40.out)
                  clear C41 o0 o1 o2 o3 o4 o5 o6 o7 o8 o9 o10 t0 t1 t2 t3 t4 t5 t6 d0 d1 d2 d3 d4 d5 d6
                  have o0 : w41.cell? ⟨ob, 0, none⟩ = some (.int .u8 y.o.kd) := cell_of HTK41.out.op 0
                  have o1 : w41.cell? ⟨ob, 1, none⟩ = some (.int .u64 (y.o.k : Int)) := cell_of HTK41.out.op 1
                  have o2 : w41.cell? ⟨ob, 2, none⟩ = some (.int .u64 (y.o.v : Int)) := cell_of HTK41.out.op 2
                  have o3 : w41.cell? ⟨ob, 3, none⟩ = some (.int .u64 (y.o.od : Int)) := cell_of HTK41.out.op 3
                  have o4 : w41.cell? ⟨ob, 4, none⟩ = some (.int .u64 (y.o.hk : Int)) := cell_of HTK41.out.op 4
                  have o5 : w41.cell? ⟨ob, 5, none⟩ = some (.bool y.r5) := cell_of HTK41.out.op 5
                  have o6 : w41.cell? ⟨ob, 6, none⟩ = some (.int .i64 y.r6) := cell_of HTK41.out.op 6
                  have o7 : w41.cell? ⟨ob, 7, none⟩ = some (.int .i64 y.r7) := cell_of HTK41.out.op 7
                  have o8 : w41.cell? ⟨ob, 8, none⟩ = some (.slice y.kp y.o.ks.length y.kc) := cell_of HTK41.out.op 8
                  have o9 : w41.cell? ⟨ob, 9, none⟩ = some (.int .u64 (y.o.lo : Int)) := cell_of HTK41.out.op 9
                  have o10 : w41.cell? ⟨ob, 10, none⟩ = some (.int .u64 (y.o.hi : Int)) := cell_of HTK41.out.op 10
                  have t0 : w41.cell? ⟨tb, 0, none⟩ = some (.int .i64 A.e) := cell_of HTK41.out.t 0
                  have t1 : w41.cell? ⟨tb, 1, none⟩ = some (.bool A.f) := cell_of HTK41.out.t 1
                  have t2 : w41.cell? ⟨tb, 2, none⟩ = some (.int .u64 (A.x : Int)) := cell_of HTK41.out.t 2
                  have t3 : w41.cell? ⟨tb, 3, none⟩ = some (.bool A.d) := cell_of HTK41.out.t 3
                  have t4 : w41.cell? ⟨tb, 4, none⟩ = some (.int .u64 (A.h : Int)) := cell_of HTK41.out.t 4
                  have t5 : w41.cell? ⟨tb, 5, none⟩ = some (.slice tp A.l.length tc) := cell_of HTK41.out.t 5
                  have t6 : w41.cell? ⟨tb, 6, none⟩ = some (.int .u64 (A.n : Int)) := cell_of HTK41.out.t 6
                  have d0 : w41.cell? ⟨wr.heap.size, 0, none⟩ = some (.int .i64 x.A.e) := cell_of HB41.out 0
                  have d1 : w41.cell? ⟨wr.heap.size, 1, none⟩ = some (.bool x.A.f) := cell_of HB41.out 1
                  have d2 : w41.cell? ⟨wr.heap.size, 2, none⟩ = some (.int .u64 (x.A.x : Int)) := cell_of HB41.out 2
                  have d3 : w41.cell? ⟨wr.heap.size, 3, none⟩ = some (.bool x.A.d) := cell_of HB41.out 3
                  have d4 : w41.cell? ⟨wr.heap.size, 4, none⟩ = some (.int .u64 (x.A.h : Int)) := cell_of HB41.out 4
                  have d5 : w41.cell? ⟨wr.heap.size, 5, none⟩ = some (.slice x.p x.A.l.length x.c) := cell_of HB41.out 5
                  have d6 : w41.cell? ⟨wr.heap.size, 6, none⟩ = some (.int .u64 (x.A.n : Int)) := cell_of HB41.out 6
                  by_cases k5 : y.o.kd = 5
                  · have y5 : (y.o.kd == 5) = true := by simpa using k5
                    clear k5
                    go_wp2_with fail
                    go_roundw
                    case rel => exact ⟨i + 1, by omega, by first | rfl | go_num, HTK41⟩
                    case measure => exact meas hlt
                  · have y5 : (y.o.kd == 5) = false := by simpa using k5
                    by_cases k10 : y.o.kd = 10
                    · have y10 : (y.o.kd == 10) = true := by simpa using k10
                      clear k5 k10
                      go_wp2_with fail
                      go_roundw
                      case rel => exact ⟨i + 1, by omega, by first | rfl | go_num, HTK41⟩
                      case measure => exact meas hlt
                    · have y10 : (y.o.kd == 10) = false := by simpa using k10
                      have eA : A = tellP 3 f (pcs h g) y.o x.A.h := HA.out.trans (tellP_any 3 f _ y.o hn x.A.h k5)
                      have HKS := keepH (HY.out.ks.chg HTK41.out.chg (fun _ _ _ x => x))
                      have HPX := keepH (HK.out.ps.chg HTK41.out.chg)
                      cases hm : mayP y.o.kd x.A.e A.e with
                      | false =>
                        have HTN := keepH (take_noB HY.out.ok (r5 := y.r5) (r6 := y.r6) (r7 := y.r7) (kc := y.kc) (cb := x.c) HK.out.h HTK41.out.mo (by omega) HN.out HKS.out HPX.out HK.out.pl eA hm k5 k10 HNS.out)
                        clear eA hm k5 k10
                        go_wp2_with fail
                        refine HTN.out.mono ?_
                        rintro e w42 ⟨rfl, C42⟩
                        have HTK42 := keepH (HTK41.out.quiet C42)
                        clear C42
                        go_wp2_with fail
                        go_roundw
                        case rel => exact ⟨i + 1, by omega, by first | rfl | go_num, HTK42⟩
                        case measure => exact meas hlt
                      | true =>
                        have he : x.A.e = 30 ∨ x.A.e = 34 := by
                          unfold mayP at hm
                          by_cases q1 : x.A.e = 30
                          · exact .inl q1
                          · rw [if_neg q1] at hm
                            by_cases q2 : x.A.e = 32 ∨ x.A.e = 31
                            · rw [if_pos q2] at hm
                              simp at hm
                              exact absurd hm k5
                            · rw [if_neg q2] at hm
                              by_cases q3 : x.A.e = 34
                              · exact .inr q3
                              · rw [if_neg q3] at hm
                                cases hm
                        obtain ⟨bb, hbb⟩ : ∃ bb : Bool, bb = decide (x.A = (⟨x.A.e, false, 0, false, 0, [], 0⟩ : Ans)) := ⟨_, rfl⟩
                        have HTN := keepH (take_fail HY.out.ok (r5 := y.r5) (r6 := y.r6) (r7 := y.r7) (kc := y.kc) (cb := x.c) HK.out.h HTK41.out.mo (by omega) HN.out HKS.out HPX.out HK.out.pl eA hm hbb)
                        have HHE := keepH he
                        clear eA hm k5 k10 he hbb
                        cases bb with
                        | false =>
                          go_wp2_with fail
                          refine HTN.out.mono ?_
                          rintro e w42 ⟨rfl, C42⟩
                          have HTK42 := keepH (HTK41.out.quiet C42)
                          clear C42
                          go_wp2_with fail
                          go_roundw
                          case rel => exact ⟨i + 1, by omega, by first | rfl | go_num, HTK42⟩
                          case measure => exact meas hlt
                        | true =>
                          go_wp2_with fail
                          refine HTN.out.mono ?_
                          rintro e w42 ⟨rfl, C42⟩
                          have HTK42 := keepH (HTK41.out.quiet C42)
                          have d0q : w42.cell? ⟨wr.heap.size, 0, none⟩ = some (.int .i64 x.A.e) := cell_of ((C42.block _ (lt_of HB41.out) (fun x => x)).trans HB41.out) 0
                          have HS5 := keepH (same_true HTK42.out.mo HTK42.out.was rfl)
                          clear C42
                          have hz : ((x.A.e != 30) = false) ∨ ((x.A.e != 30) = true ∧ (x.A.e != 34) = false) := by
                            rcases HHE.out with q | q
                            · exact .inl (by simp [q])
                            · exact .inr ⟨by simp [q], by simp [q]⟩
                          rcases hz with v1 | ⟨v1, v2⟩
                          all_goals (
                            go_wp2_with fail
                            refine HS5.out.mono ?_
                            rintro e w43 ⟨rfl, C43⟩
                            have HTK43 := keepH (HTK42.out.quiet C43)
                            clear C43
                            go_wp2_with fail
                            go_roundw
                            case rel => exact ⟨i + 1, by omega, by first | rfl | go_num, HTK43⟩
                            case measure => exact meas hlt)
              · have q1 : ¬ (i : Int) < (X.length : Int) := by omega
                have HS6 := keepH (same_true HX.out.mo HX.out.was rfl)
                go_wp2_with fail
                refine HS6.out.mono ?_
                rintro e w50 ⟨rfl, C50⟩
                have HC50 : Hid (Chg (fun _ => False) W w50) := (HC2.out.trans HX.out.chg (H := fun _ => False) (fun _ _ x => x) (fun _ _ x => x)).trans C50 (fun _ _ x => x) (fun _ _ x => x)
                clear C50
                go_wp2_with fail
                go_ret
                exact ⟨by simp, HC50.out⟩)
end Go.Proofs.Ytgddedoinhgocaa
