/- The document's model: Take of any operation and any answer. -/
import Derived.Test.YtahgaghokpicgaaGreatW14D8c
import Derived.Test.YtahgaghokpicgaaGreatW20Nt2
namespace Go.Proofs.YtahgaghokpicgaaGreat
open Go.RowKit Go.Maps
set_option linter.unusedVariables false
set_option maxHeartbeats 16000000
set_option linter.unusedSimpArgs false
/- What Take tells, as the document has it. -/
theorem tk_w {mu : Nat} {f : Nat → Option Nat} {pc : Nat → Option (Nat → Option Nat)} {o : OpP} {B : Ans} (h : o.kd = 2 ∨ o.kd = 3 ∨ o.kd = 4) : takeB mu f pc o B = (decide (B = errA 30) || decide (B = tellP mu f pc o B.h)) := by
 have e0 : (tellP mu f pc o B.h).e = 0 := by
  unfold tellP
  by_cases k4 : o.kd = 4
  ·rw [if_pos k4]
  ·rw [if_neg k4, if_pos (by omega)]
 unfold takeB
 by_cases b30 : B.e = 30
 ·have m : mayP o.kd B.e (tellP mu f pc o B.h).e = true := by unfold mayP; rw [if_pos b30]; simp; omega
  rw [if_pos m, b30]
  have ne : ¬ B = tellP mu f pc o B.h := fun e => by rw [e, e0] at b30; omega
  simp [ne]
 ·have m : mayP o.kd B.e (tellP mu f pc o B.h).e = false := by
    unfold mayP
    rw [if_neg b30, e0]
    by_cases q : B.e = 32 ∨ B.e = 31
    ·rw [if_pos q]; simp; omega
    ·rw [if_neg q]; simp
  rw [m, if_neg (by simp), if_neg (by omega), if_neg (by omega)]
  have ne : ¬ B = errA 30 := fun e => b30 (by rw [e]; rfl)
  simp [ne]
theorem tk_5 {mu : Nat} {f : Nat → Option Nat} {pc : Nat → Option (Nat → Option Nat)} {o : OpP} {B : Ans} (h : o.kd = 5) : takeB mu f pc o B = (decide (B = errA 32) || decide (B = errA 31) || (!(decide (B.h = 0) || (pc B.h).isSome) && decide (B = tellP mu f pc o B.h))) := by
 have eT : tellP mu f pc o B.h = if (pc B.h).isSome then errA 32 else ⟨0, false, 0, false, B.h, [], 0⟩ := by unfold tellP; rw [if_neg (by omega), if_neg (by omega), if_pos h]
 unfold takeB
 by_cases q : B.e = 32 ∨ B.e = 31
 ·have m : mayP o.kd B.e (tellP mu f pc o B.h).e = true := by unfold mayP; rw [if_neg (by omega), if_pos q]; simp [h]
  rw [if_pos m]
  by_cases b32 : B.e = 32
  ·rw [b32]
   have ne : ¬ B = errA 31 := fun e => by rw [e] at b32; exact absurd b32 (by decide)
   have nt : (!(decide (B.h = 0) || (pc B.h).isSome) && decide (B = tellP mu f pc o B.h)) = false := by
    cases hp : (pc B.h).isSome with
    | true => simp
    | false =>
     have : ¬ B = tellP mu f pc o B.h := fun e => by rw [eT, hp] at e; rw [e] at b32; simp at b32
     simp [this]
   rw [nt]
   simp [ne]
  ·have b31 : B.e = 31 := by omega
   rw [b31]
   have ne : ¬ B = errA 32 := fun e => b32 (by rw [e]; rfl)
   have nt : (!(decide (B.h = 0) || (pc B.h).isSome) && decide (B = tellP mu f pc o B.h)) = false := by
    cases hp : (pc B.h).isSome with
    | true => simp
    | false =>
     have : ¬ B = tellP mu f pc o B.h := fun e => by rw [eT, hp] at e; rw [e] at b31; simp at b31
     simp [this]
   rw [nt]
   simp [ne]
 ·have m : mayP o.kd B.e (tellP mu f pc o B.h).e = false := by
    unfold mayP
    by_cases b30 : B.e = 30
    ·rw [if_pos b30]; simp; omega
    ·rw [if_neg b30, if_neg q, eT]
     by_cases b34 : B.e = 34
     ·rw [if_pos b34]
      cases hp : (pc B.h).isSome <;> simp [errA]
     ·rw [if_neg b34]
  rw [m, if_neg (by simp)]
  have n1 : ¬ B = errA 32 := fun e => q (.inl (by rw [e]; rfl))
  have n2 : ¬ B = errA 31 := fun e => q (.inr (by rw [e]; rfl))
  by_cases h0 : B.h = 0
  ·rw [if_pos ⟨h, h0⟩]
   simp [n1, n2, h0]
  ·rw [if_neg (fun x => h0 x.2), if_neg (by omega)]
   cases hp : (pc B.h).isSome with
   | true =>
    have : ¬ B = tellP mu f pc o B.h := fun e => n1 (by rw [eT, hp] at e; exact e)
    simp [n1, n2, this]
   | false => simp [n1, n2, h0]
theorem askP_e (mu : Nat) (pc : Nat → Option (Nat → Option Nat)) (o : OpP) : (askP mu pc o).e = 33 ↔ askP mu pc o = errA 33 := by
 constructor
 ·unfold askP
  split
  ·intro h; exact absurd h (by simp [errA])
  ·split
   ·intro _; rfl
   ·split
    ·intro h; exact absurd h (by simp)
    ·split
     ·intro h; exact absurd h (by simp)
     ·intro h; exact absurd h (by simp)
 ·intro h; rw [h]; rfl
theorem tk_q {mu : Nat} {f : Nat → Option Nat} {pc : Nat → Option (Nat → Option Nat)} {o : OpP} {B : Ans} (h : o.kd = 7 ∨ o.kd = 8 ∨ o.kd = 9) : takeB mu f pc o B = ((decide (askP mu pc o = errA 33) && decide (B = errA 34)) || decide (B = tellP mu f pc o B.h)) := by
 unfold takeB
 rw [askP_is h]
 by_cases b34 : B.e = 34 ∧ (askP mu pc o).e = 33
 ·have m : mayP o.kd B.e (askP mu pc o).e = true := by unfold mayP; rw [if_neg (by omega), if_neg (by omega), if_pos b34.1]; simp; omega
  rw [if_pos m, b34.1]
  have e1 := (askP_e mu pc o).1 b34.2
  have ne : ¬ B = askP mu pc o := fun e => by rw [e1] at e; have := b34.1; rw [e] at this; exact absurd this (by decide)
  simp [e1]
  intro e
  rw [e1] at ne
  exact absurd e ne
 ·have m : mayP o.kd B.e (askP mu pc o).e = false := by
    unfold mayP
    by_cases b30 : B.e = 30
    ·rw [if_pos b30]; simp; omega
    ·rw [if_neg b30]
     by_cases q : B.e = 32 ∨ B.e = 31
     ·rw [if_pos q]; simp; omega
     ·rw [if_neg q]
      by_cases b4 : B.e = 34
      ·rw [if_pos b4]; simp; intro _ x; exact b34 ⟨b4, x⟩
      ·rw [if_neg b4]
  rw [m, if_neg (by simp), if_neg (by omega), if_neg (by omega)]
  have n1 : (decide (askP mu pc o = errA 33) && decide (B = errA 34)) = false := by
   by_cases x : askP mu pc o = errA 33
   ·have : ¬ B = errA 34 := fun e => b34 ⟨by rw [e]; rfl, (askP_e mu pc o).2 x⟩
    simp [this]
   ·simp [x]
  rw [n1]
  simp
theorem tk_10 {mu : Nat} {f : Nat → Option Nat} {pc : Nat → Option (Nat → Option Nat)} {o : OpP} {B : Ans} (h : o.kd = 10) : takeB mu f pc o B = decide (B = ⟨0, false, 0, false, 0, [], B.n⟩) := by
 have eT : tellP mu f pc o B.h = errA 0 := by
  unfold tellP
  rw [if_neg (by omega), if_neg (by omega), if_neg (by omega), if_neg (by omega), if_neg (by omega), if_neg (by omega), if_pos h]
 unfold takeB
 have m : mayP o.kd B.e (tellP mu f pc o B.h).e = false := by
  rw [eT]
  unfold mayP
  by_cases b30 : B.e = 30
  ·rw [if_pos b30]; simp; omega
  ·rw [if_neg b30]
   by_cases q : B.e = 32 ∨ B.e = 31
   ·rw [if_pos q]; simp; omega
   ·rw [if_neg q]
    by_cases b4 : B.e = 34
    ·rw [if_pos b4]; simp [errA]
    ·rw [if_neg b4]
 rw [m, if_neg (by simp), if_neg (by omega), if_pos h]
theorem tk_o {mu : Nat} {f : Nat → Option Nat} {pc : Nat → Option (Nat → Option Nat)} {o : OpP} {B : Ans} (h2 : ¬ (o.kd = 2 ∨ o.kd = 3 ∨ o.kd = 4)) (h5 : ¬ o.kd = 5) (hq : ¬ (o.kd = 7 ∨ o.kd = 8 ∨ o.kd = 9)) (h10 : ¬ o.kd = 10) : takeB mu f pc o B = decide (B = tellP mu f pc o B.h) := by
 have ne : o.kd = 6 ∨ (tellP mu f pc o B.h).e ≠ 33 := by
  by_cases k6 : o.kd = 6
  ·exact .inl k6
  ·refine .inr ?_
   unfold tellP
   rw [if_neg (by omega)]
   by_cases k1 : o.kd = 1 ∨ o.kd = 2 ∨ o.kd = 3
   ·rw [if_pos k1]; simp
   ·rw [if_neg k1, if_neg h5, if_neg k6, if_neg (by omega), if_neg hq, if_neg h10]; simp [errA]
 unfold takeB
 have m : mayP o.kd B.e (tellP mu f pc o B.h).e = false := by
  unfold mayP
  by_cases b30 : B.e = 30
  ·rw [if_pos b30]; simp; omega
  ·rw [if_neg b30]
   by_cases q : B.e = 32 ∨ B.e = 31
   ·rw [if_pos q]; simp; omega
   ·rw [if_neg q]
    by_cases b4 : B.e = 34
    ·rw [if_pos b4]; simp; omega
    ·rw [if_neg b4]
 rw [m, if_neg (by simp), if_neg (fun x => h5 x.1), if_neg h10]
theorem RB.ask_len {A : Nat → Prop} {W : World} {m : Nat} {mu n : Nat} {f : Nat → Option Nat} {pc : Nat → Option (Nat → Option Nat)} (h : RB A W m mu f pc n) {o : OpP} (ho : o.Ok) : (askP mu pc o).l.length ≤ n + mu := by
 obtain ⟨l, H, h1, h2, h3, rfl, h5, h6⟩ := h.ex
 obtain ⟨mv, hv, Z, g1, g2, rfl, g4, g5⟩ := h1.ex
 have hhi : o.hi ≤ 18446744073709551615 := by have := ho.hi; omega
 unfold askP
 split
 ·simp [errA]
 ·rename_i q
  split
  ·simp [errA]
  ·rename_i c hc
   have hl : (theL c o.lo o.hi).length ≤ n := by
    have hs : (hP (Z.map (fun z => (z.1, z.2.2))) o.hk).isSome = true := by rw [hc]; rfl
    obtain ⟨z, hz, e⟩ := (hP_isSome h2 _).1 hs
    have e2 := hP_some h2 hz
    rw [e, hc] at e2
    injection e2 with e2
    obtain ⟨y, hy, rfl⟩ := List.mem_map.1 hz
    simp only at e2
    rw [e2, theL_rl (g4 y hy) _ _ hhi]
    have := (h3 _ hz).2.2
    have := List.length_filter_le (fun x : Nat × Nat => decide (o.lo ≤ x.1) && decide (x.1 ≤ o.hi)) y.2.2.2
    simp only at *
    omega
   split
   ·have := List.length_filterMap_le (fun k => (c k).map (fun v => (k, v))) o.ks
    show (pairsOf c o.ks).length ≤ _
    unfold pairsOf
    omega
   ·split
    ·show (theL c o.lo o.hi).length ≤ _
     omega
    ·simp
theorem take_keeps {f : Nat → Option Nat} {pc : Nat → Option (Nat → Option Nat)} {o : OpP} {B : Ans} (h : B.e ≠ 0) : doF o B f = f ∧ doP o B f pc = pc := ⟨doF_err (.inr h), doP_err (.inr h)⟩
def DTook (A : Nat → Prop) (W : World) (m mu n : Nat) (o : OpP) (B : Ans) (f : Nat → Option Nat) (pc : Nat → Option (Nat → Option Nat)) (R : Bool) (e : Ending) (W' : World) : Prop :=
 e = .returned (.bool R) ∧ RB A W' m mu (if R then doF o B f else f) (if R then doP o B f pc else pc) (n + 1) ∧ Chg (fun k => k = m) W W'
theorem DTook.still {A : Nat → Prop} {W : World} {m mu n : Nat} {o : OpP} {B : Ans} {f : Nat → Option Nat} {pc : Nat → Option (Nat → Option Nat)} {R : Bool} {e : Ending} {W' : World} (h : RB A W m mu f pc n) (he : e = .returned (.bool R)) (hc : Chg (fun _ => False) W W') (hk : R = true → doF o B f = f ∧ doP o B f pc = pc) : DTook A W m mu n o B f pc R e W' := by
 refine ⟨he, ?_, hc.mono (fun _ _ x => x.elim)⟩
 cases R with
 | false => exact (h.quiet hc).mono (Nat.le_succ n)
 | true => rw [if_pos rfl, if_pos rfl, (hk rfl).1, (hk rfl).2]; exact (h.quiet hc).mono (Nat.le_succ n)
theorem tk_is {T B t : Ans} (h : T = t) (h2 : true = decide (B = t)) : T = B := by rw [h]; exact (of_decide_eq_true h2.symm).symm
theorem DTook.done {A : Nat → Prop} {W w : World} {m m2 mu n : Nat} {o : OpP} {B : Ans} {f : Nat → Option Nat} {pc : Nat → Option (Nat → Option Nat)} (h : RB A w m2 mu (doF o B f) (doP o B f pc) (n + 1)) {a1 a2 a3 b1 b2 b3 : Value} (e1 : w.heap[m]? = some (.cells #[a1, a2, a3] 105 (0, 0))) (e2 : w.heap[m2]? = some (.cells #[b1, b2, b3] 105 (0, 0))) (c : Chg (fun _ => False) W w) : DTook A W m mu n o B f pc true (.returned (.bool true)) (((w.setCell ⟨m, 0, none⟩ b1).setCell ⟨m, 1, none⟩ b2).setCell ⟨m, 2, none⟩ b3) := by
 have c3 : Chg (fun k => k = m) w (((w.setCell ⟨m, 0, none⟩ b1).setCell ⟨m, 1, none⟩ b2).setCell ⟨m, 2, none⟩ b3) := (((Chg.refl (fun k => k = m) w).setCell (p := ⟨m, 0, none⟩) (fun _ => rfl) b1).setCell (p := ⟨m, 1, none⟩) (fun _ => rfl) b2).setCell (p := ⟨m, 2, none⟩) (fun _ => rfl) b3
 have e3 : (((w.setCell ⟨m, 0, none⟩ b1).setCell ⟨m, 1, none⟩ b2).setCell ⟨m, 2, none⟩ b3).heap[m]? = some (.cells #[b1, b2, b3] 105 (0, 0)) := by
  rw [set_of (set_of (set_of e1 0 _) 1 _) 2 _]
  rfl
 exact ⟨rfl, RB.moved h e1 e2 e3 c3, (c.mono (fun _ _ x => x.elim)).trans c3 (fun _ _ x => x) (fun _ _ x => x)⟩
set_option maxRecDepth 100000 in
theorem d_take {A : Nat → Prop} {W : World} {m mu n : Nat} {f : Nat → Option Nat} {pc : Nat → Option (Nat → Option Nat)} (h : RB A W m mu f pc n) (hn : n ≤ 3000000) (hmu : mu ≤ 1024) (hA : ∀ b, A b → b < W.heap.size)
    {o : OpP} (ho : o.Ok) {r5 : Bool} {r6 r7 : Int} {kp pb : Option Addr} {kc cb : Nat} (hks : KeysAt W kp o.ks) {B : Ans} (hBh : B.h < 18446744073709551616) (hB : PairsAt W pb B.l) (hBl : B.l.length ≤ 17592186044416) {R : Bool} (hR : R = takeB mu f pc o B) :
    Calls Tryz.prog 14 #[.pointer (some ⟨m, 0, none⟩), .agg (opC o r5 r6 r7 kp kc), .agg (ansC B pb cb)] W (DTook A W m mu n o B f pc R) := by
 obtain ⟨K, hK⟩ : ∃ K : Ending → World → Prop, K = DTook A W m mu n o B f pc R := ⟨_, rfl⟩
 have HKS : Hid (∀ e W', e = .returned (.bool R) → Chg (fun _ => False) W W' → (R = true → doF o B f = f ∧ doP o B f pc = pc) → K e W') := fun e W' h1 h2 h3 => by rw [hK]; exact DTook.still h h1 h2 h3
 have HKR : Hid (∀ {b : Bool} W', R = b → Chg (fun _ => False) W W' → (R = true → doF o B f = f ∧ doP o B f pc = pc) → K (.returned (.bool b)) W') := fun W' h1 h2 h3 => HKS.out _ W' (by rw [h1]) h2 h3
 have HKD := keepH hK
 rw [← hK]
 have hlm : m < W.heap.size := by obtain ⟨pm, ph, nm, cm, nh, ch, e⟩ := h.cells; exact lt_of e
 unfold opC ansC
 obtain ⟨w0, hw0⟩ : ∃ w0, w0 = (W.alloc (.cells #[.int .u8 o.kd, .int .u64 o.k, .int .u64 o.v, .int .u64 o.od, .int .u64 o.hk, .bool r5, .int .i64 r6, .int .i64 r7, .slice kp o.ks.length kc, .int .u64 o.lo, .int .u64 o.hi] 35)).alloc (.cells #[.int .i64 B.e, .bool B.f, .int .u64 B.x, .bool B.d, .int .u64 B.h, .slice pb B.l.length cb, .int .u64 B.n] 39) := ⟨_, rfl⟩
 have C0 : Chg (fun _ => False) W w0 := by rw [hw0]; exact ((Chg.refl _ _).alloc _).alloc _
 have S0 : w0.heap.size = W.heap.size + 2 := by rw [hw0]; simp
 have o0 : w0.heap[W.heap.size]? = some (.cells #[.int .u8 o.kd, .int .u64 o.k, .int .u64 o.v, .int .u64 o.od, .int .u64 o.hk, .bool r5, .int .i64 r6, .int .i64 r7, .slice kp o.ks.length kc, .int .u64 o.lo, .int .u64 o.hi] 35 (0, 0)) := by rw [hw0]; exact alloc_of (heap_alloc_new _ _) _
 have a0 : w0.heap[W.heap.size + 1]? = some (.cells #[.int .i64 B.e, .bool B.f, .int .u64 B.x, .bool B.d, .int .u64 B.h, .slice pb B.l.length cb, .int .u64 B.n] 39 (0, 0)) := by
  rw [hw0]
  exact al2
 obtain ⟨P, hP⟩ : ∃ P, P = W.heap.size := ⟨_, rfl⟩
 obtain ⟨P1, hP1⟩ : ∃ P1, P1 = W.heap.size + 1 := ⟨_, rfl⟩
 rw [← hP] at o0
 rw [← hP1] at a0
 have HC0 := keepH C0
 have HO0 := keepH o0
 have HA0 := keepH a0
 have HLN : Hid (m < W.heap.size ∧ P = W.heap.size ∧ P1 = W.heap.size + 1 ∧ w0.heap.size = W.heap.size + 2) := ⟨hlm, hP, hP1, S0⟩
 have HM := keepH h
 have HKY := keepH hks
 have HOK := keepH ho
 have HPB := keepH hB
 have HRR := keepH hR
 have HAA := keepH hA
 have HNN : Hid (n ≤ 3000000 ∧ mu ≤ 1024 ∧ B.h < 18446744073709551616 ∧ B.l.length ≤ 17592186044416) := ⟨hn, hmu, hBh, hBl⟩
 have HBR : Hid (∀ (E : Int) (w : World), Chg (fun _ => False) W w → Calls Tryz.prog 44 #[.agg #[.int .i64 B.e, .bool B.f, .int .u64 B.x, .bool B.d, .int .u64 B.h, .slice pb B.l.length cb, .int .u64 B.n], .int .i64 E] w fun e W' => e = .returned (.bool (decide (B = errA E))) ∧ Chg (fun _ => False) w W') := fun E w c => r_bare (hB.chg c) hBl
 have xo0 : w0.cell? ⟨P, 0, none⟩ = some (.int .u8 o.kd) := cell_of o0 0
 have xo1 : w0.cell? ⟨P, 1, none⟩ = some (.int .u64 o.k) := cell_of o0 1
 have xo2 : w0.cell? ⟨P, 2, none⟩ = some (.int .u64 o.v) := cell_of o0 2
 have xo3 : w0.cell? ⟨P, 3, none⟩ = some (.int .u64 o.od) := cell_of o0 3
 have xo4 : w0.cell? ⟨P, 4, none⟩ = some (.int .u64 o.hk) := cell_of o0 4
 have xo5 : w0.cell? ⟨P, 5, none⟩ = some (.bool r5) := cell_of o0 5
 have xo6 : w0.cell? ⟨P, 6, none⟩ = some (.int .i64 r6) := cell_of o0 6
 have xo7 : w0.cell? ⟨P, 7, none⟩ = some (.int .i64 r7) := cell_of o0 7
 have xo8 : w0.cell? ⟨P, 8, none⟩ = some (.slice kp o.ks.length kc) := cell_of o0 8
 have xo9 : w0.cell? ⟨P, 9, none⟩ = some (.int .u64 o.lo) := cell_of o0 9
 have xo10 : w0.cell? ⟨P, 10, none⟩ = some (.int .u64 o.hi) := cell_of o0 10
 have b0 : w0.cell? ⟨P1, 0, none⟩ = some (.int .i64 B.e) := cell_of a0 0
 have b1 : w0.cell? ⟨P1, 1, none⟩ = some (.bool B.f) := cell_of a0 1
 have b2 : w0.cell? ⟨P1, 2, none⟩ = some (.int .u64 B.x) := cell_of a0 2
 have b3 : w0.cell? ⟨P1, 3, none⟩ = some (.bool B.d) := cell_of a0 3
 have b4 : w0.cell? ⟨P1, 4, none⟩ = some (.int .u64 B.h) := cell_of a0 4
 have b5 : w0.cell? ⟨P1, 5, none⟩ = some (.slice pb B.l.length cb) := cell_of a0 5
 have b6 : w0.cell? ⟨P1, 6, none⟩ = some (.int .u64 B.n) := cell_of a0 6
 clear h hks ho hB hR hA hn hmu hBh hBl C0 o0 a0 hlm S0 hK
 go_enter Tryz.func14, Tryz.ntmps14
 go_upto_region 1 with fail
 rw [← hP1, ← hP, ← hw0]
 clear hw0 hP hP1
 go_upto_block 0 with fail
 go_cut [] from 12 to 54 (fun wz => Hid (Chg (fun _ => False) w0 wz ∧ R = decide (B = tellP mu f pc o B.h)))
 case first =>
  by_cases k2 : o.kd = 2
  ·have HT := keepH (tk_w (mu := mu) (f := f) (pc := pc) (B := B) (show o.kd = 2 ∨ o.kd = 3 ∨ o.kd = 4 by omega))
   have HB1 := keepH (HBR.out 30 w0 HC0.out)
   obtain ⟨q, hq⟩ : ∃ q, q = decide (B = errA 30) := ⟨_, rfl⟩
   rw [← hq] at HB1 HT
   have HQ := keepH hq
   clear hq
   have z2 : (o.kd == 2) = true := by simpa using (show o.kd = 2 by omega)
   clear k2
   go_wp2_with fail
   refine HB1.out.mono ?_
   rintro e w1 ⟨rfl, C1⟩
   have HC1 := keepH C1
   clear C1
   cases q with
   | true =>
    have HE : Hid (R = true ∧ B.e = 30) := ⟨by rw [HRR.out, HT.out]; rfl, by have := HQ.out; rw [of_decide_eq_true this.symm]; rfl⟩
    go_wp2_with fail
    exact HKR.out _ HE.out.1 (chgF HC0.out HC1.out) (fun _ => take_keeps (by have := HE.out.2; omega))
   | false =>
    have HE : Hid (Chg (fun _ => False) w0 w1 ∧ R = decide (B = tellP mu f pc o B.h)) := ⟨HC1.out, by rw [HRR.out, HT.out]; simp⟩
    go_wp2_with fail
    go_meet
    exact HE
  by_cases k3 : o.kd = 3
  ·have HT := keepH (tk_w (mu := mu) (f := f) (pc := pc) (B := B) (show o.kd = 2 ∨ o.kd = 3 ∨ o.kd = 4 by omega))
   have HB1 := keepH (HBR.out 30 w0 HC0.out)
   obtain ⟨q, hq⟩ : ∃ q, q = decide (B = errA 30) := ⟨_, rfl⟩
   rw [← hq] at HB1 HT
   have HQ := keepH hq
   clear hq
   have z2 : (o.kd == 2) = false := by simpa using (show ¬ o.kd = 2 by omega)
   have z3 : (o.kd == 3) = true := by simpa using (show o.kd = 3 by omega)
   clear k3
   go_wp2_with fail
   refine HB1.out.mono ?_
   rintro e w1 ⟨rfl, C1⟩
   have HC1 := keepH C1
   clear C1
   cases q with
   | true =>
    have HE : Hid (R = true ∧ B.e = 30) := ⟨by rw [HRR.out, HT.out]; rfl, by have := HQ.out; rw [of_decide_eq_true this.symm]; rfl⟩
    go_wp2_with fail
    exact HKR.out _ HE.out.1 (chgF HC0.out HC1.out) (fun _ => take_keeps (by have := HE.out.2; omega))
   | false =>
    have HE : Hid (Chg (fun _ => False) w0 w1 ∧ R = decide (B = tellP mu f pc o B.h)) := ⟨HC1.out, by rw [HRR.out, HT.out]; simp⟩
    go_wp2_with fail
    go_meet
    exact HE
  by_cases k4 : o.kd = 4
  ·have HT := keepH (tk_w (mu := mu) (f := f) (pc := pc) (B := B) (show o.kd = 2 ∨ o.kd = 3 ∨ o.kd = 4 by omega))
   have HB1 := keepH (HBR.out 30 w0 HC0.out)
   obtain ⟨q, hq⟩ : ∃ q, q = decide (B = errA 30) := ⟨_, rfl⟩
   rw [← hq] at HB1 HT
   have HQ := keepH hq
   clear hq
   have z2 : (o.kd == 2) = false := by simpa using (show ¬ o.kd = 2 by omega)
   have z3 : (o.kd == 3) = false := by simpa using (show ¬ o.kd = 3 by omega)
   have z4 : (o.kd == 4) = true := by simpa using (show o.kd = 4 by omega)
   clear k4
   go_wp2_with fail
   refine HB1.out.mono ?_
   rintro e w1 ⟨rfl, C1⟩
   have HC1 := keepH C1
   clear C1
   cases q with
   | true =>
    have HE : Hid (R = true ∧ B.e = 30) := ⟨by rw [HRR.out, HT.out]; rfl, by have := HQ.out; rw [of_decide_eq_true this.symm]; rfl⟩
    go_wp2_with fail
    exact HKR.out _ HE.out.1 (chgF HC0.out HC1.out) (fun _ => take_keeps (by have := HE.out.2; omega))
   | false =>
    have HE : Hid (Chg (fun _ => False) w0 w1 ∧ R = decide (B = tellP mu f pc o B.h)) := ⟨HC1.out, by rw [HRR.out, HT.out]; simp⟩
    go_wp2_with fail
    go_meet
    exact HE
  by_cases k5 : o.kd = 5
  ·have HT := keepH (tk_5 (mu := mu) (f := f) (pc := pc) (B := B) k5)
   have HB1 := keepH (HBR.out 32 w0 HC0.out)
   have HB2 := keepH (fun w c => HBR.out 31 w (chgF HC0.out c))
   have HPL : Hid (∃ i : Int, (0 ≤ i ↔ (pc B.h).isSome = true) ∧ ∀ w, Chg (fun _ => False) W w → Calls Tryz.prog 45 #[.pointer (some ⟨m, 0, none⟩), .int .u64 B.h] w fun e W' => e = .returned (.int .i64 i) ∧ Chg (fun _ => False) w W') := by
    have h := HM.out
    have hbn := HNN.out
    obtain ⟨mv, hv, Z, l, h1, h2, h4, h5, hR, hz, rfl, hgl, hlZ⟩ := h.begin
    have hl2 : (Z.map (fun z => (z.1, z.2.1))).length ≤ 4000000 := by simp; omega
    refine ⟨placeI (Z.map (fun z => (z.1, z.2.1))) B.h, ?_, fun w c => (r_placeM (h1.quiet c) hl2 B.h).mono (fun e w' h => ⟨h.1, by rw [h.2]; exact Chg.refl _ _⟩)⟩
    rcases place_cases (Z.map (fun z => (z.1, z.2.1))) B.h with hp | ⟨i, hp, hi2, hi3⟩
    ·rw [hp, hP_none (placeI_neg hp)]
     simp
    ·rw [hp]
     have hi4 : i < Z.length := by simpa using hi2
     have : (hP (Z.map (fun z => (z.1, z.2.2))) B.h).isSome = true := by
      rw [hP_isSome hR]
      exact ⟨(Z[i].1, Z[i].2.2), List.mem_map.2 ⟨_, List.getElem_mem hi4, rfl⟩, by simpa using hi3⟩
     simp [this]
   obtain ⟨pi, hpi, hpl⟩ := HPL.out
   have HP2 := keepH hpl
   have HPI := keepH hpi
   clear hpl hpi HPL
   obtain ⟨q1, hq1⟩ : ∃ q, q = decide (B = errA 32) := ⟨_, rfl⟩
   obtain ⟨q2, hq2⟩ : ∃ q, q = decide (B = errA 31) := ⟨_, rfl⟩
   rw [← hq1] at HB1 HT
   rw [← hq2] at HB2 HT
   have HQ1 := keepH hq1
   have HQ2 := keepH hq2
   clear hq1 hq2
   have z2 : (o.kd == 2) = false := by simpa using (show ¬ o.kd = 2 by omega)
   have z3 : (o.kd == 3) = false := by simpa using (show ¬ o.kd = 3 by omega)
   have z4 : (o.kd == 4) = false := by simpa using (show ¬ o.kd = 4 by omega)
   have z5 : (o.kd == 5) = true := by simpa using (show o.kd = 5 by omega)
   clear k5
   go_wp2_with fail
   refine HB1.out.mono ?_
   rintro e w1 ⟨rfl, C1⟩
   have HC1 := keepH C1
   have Bw1 : Hid (w1.heap[P1]? = some (.cells #[.int .i64 B.e, .bool B.f, .int .u64 B.x, .bool B.d, .int .u64 B.h, .slice pb B.l.length cb, .int .u64 B.n] 39 (0, 0))) := (C1.block _ (lt_of HA0.out) (fun x => x)).trans HA0.out
   have Ow1 : Hid (w1.heap[P]? = some (.cells #[.int .u8 o.kd, .int .u64 o.k, .int .u64 o.v, .int .u64 o.od, .int .u64 o.hk, .bool r5, .int .i64 r6, .int .i64 r7, .slice kp o.ks.length kc, .int .u64 o.lo, .int .u64 o.hi] 35 (0, 0))) := (C1.block _ (lt_of HO0.out) (fun x => x)).trans HO0.out
   have e0 : w1.cell? ⟨P1, 0, none⟩ = some (.int .i64 B.e) := cell_of Bw1.out 0
   have e1 : w1.cell? ⟨P1, 1, none⟩ = some (.bool B.f) := cell_of Bw1.out 1
   have e2 : w1.cell? ⟨P1, 2, none⟩ = some (.int .u64 B.x) := cell_of Bw1.out 2
   have e3 : w1.cell? ⟨P1, 3, none⟩ = some (.bool B.d) := cell_of Bw1.out 3
   have e4 : w1.cell? ⟨P1, 4, none⟩ = some (.int .u64 B.h) := cell_of Bw1.out 4
   have e5 : w1.cell? ⟨P1, 5, none⟩ = some (.slice pb B.l.length cb) := cell_of Bw1.out 5
   have e6 : w1.cell? ⟨P1, 6, none⟩ = some (.int .u64 B.n) := cell_of Bw1.out 6
   clear C1
   cases q1 with
   | true =>
    have HE : Hid (R = true ∧ B.e = 32) := ⟨by rw [HRR.out, HT.out]; rfl, by have := HQ1.out; rw [of_decide_eq_true this.symm]; rfl⟩
    go_wp2_with fail
    exact HKR.out _ HE.out.1 (chgF HC0.out HC1.out) (fun _ => take_keeps (by have := HE.out.2; omega))
   | false =>
    go_wp2_with fail
    refine (HB2.out w1 HC1.out).mono ?_
    rintro e w2 ⟨rfl, C2⟩
    have HC2 : Hid (Chg (fun _ => False) w0 w2) := chgF HC1.out C2
    have Bw2 : Hid (w2.heap[P1]? = some (.cells #[.int .i64 B.e, .bool B.f, .int .u64 B.x, .bool B.d, .int .u64 B.h, .slice pb B.l.length cb, .int .u64 B.n] 39 (0, 0))) := (HC2.out.block _ (lt_of HA0.out) (fun x => x)).trans HA0.out
    have Ow2 : Hid (w2.heap[P]? = some (.cells #[.int .u8 o.kd, .int .u64 o.k, .int .u64 o.v, .int .u64 o.od, .int .u64 o.hk, .bool r5, .int .i64 r6, .int .i64 r7, .slice kp o.ks.length kc, .int .u64 o.lo, .int .u64 o.hi] 35 (0, 0))) := (HC2.out.block _ (lt_of HO0.out) (fun x => x)).trans HO0.out
    have g0 : w2.cell? ⟨P1, 0, none⟩ = some (.int .i64 B.e) := cell_of Bw2.out 0
    have g1 : w2.cell? ⟨P1, 1, none⟩ = some (.bool B.f) := cell_of Bw2.out 1
    have g2 : w2.cell? ⟨P1, 2, none⟩ = some (.int .u64 B.x) := cell_of Bw2.out 2
    have g3 : w2.cell? ⟨P1, 3, none⟩ = some (.bool B.d) := cell_of Bw2.out 3
    have g4 : w2.cell? ⟨P1, 4, none⟩ = some (.int .u64 B.h) := cell_of Bw2.out 4
    have g5 : w2.cell? ⟨P1, 5, none⟩ = some (.slice pb B.l.length cb) := cell_of Bw2.out 5
    have g6 : w2.cell? ⟨P1, 6, none⟩ = some (.int .u64 B.n) := cell_of Bw2.out 6
    clear C2
    cases q2 with
    | true =>
     have HE : Hid (R = true ∧ B.e = 31) := ⟨by rw [HRR.out, HT.out]; rfl, by have := HQ2.out; rw [of_decide_eq_true this.symm]; rfl⟩
     go_wp2_with fail
     exact HKR.out _ HE.out.1 (chgF HC0.out HC2.out) (fun _ => take_keeps (by have := HE.out.2; omega))
    | false =>
     by_cases h0 : B.h = 0
     ·have zh : ((B.h : Int) == 0) = true := by simp [h0]
      have HE : Hid (R = false) := by show R = _; rw [HRR.out, HT.out]; simp [h0]
      clear h0
      go_wp2_with fail
      exact HKR.out _ HE.out (chgF HC0.out HC2.out) (fun e => by rw [HE.out] at e; cases e)
     ·have zh : ((B.h : Int) == 0) = false := by simp; omega
      by_cases hs : (pc B.h).isSome = true
      ·have t1 : 0 ≤ pi := HPI.out.2 hs
       have HE : Hid (R = false) := by show R = _; rw [HRR.out, HT.out]; simp [hs]
       clear h0 hs
       go_wp2_with fail
       refine (HP2.out w2 (chgF HC0.out HC2.out)).mono ?_
       rintro e w3 ⟨rfl, C3⟩
       have HC3 : Hid (Chg (fun _ => False) w0 w3) := chgF HC2.out C3
       clear C3
       go_wp2_with fail
       exact HKR.out _ HE.out (chgF HC0.out HC3.out) (fun e => by rw [HE.out] at e; cases e)
      ·have t1 : ¬ 0 ≤ pi := fun e => hs (HPI.out.1 e)
       have hs2 : (pc B.h).isSome = false := by simpa using hs
       have HR2 : Hid (R = decide (B = tellP mu f pc o B.h)) := by show R = _; rw [HRR.out, HT.out]; simp [hs2, h0]
       clear h0 hs hs2
       go_wp2_with fail
       refine (HP2.out w2 (chgF HC0.out HC2.out)).mono ?_
       rintro e w3 ⟨rfl, C3⟩
       have HE : Hid (Chg (fun _ => False) w0 w3 ∧ R = decide (B = tellP mu f pc o B.h)) := ⟨chgF HC2.out C3, HR2.out⟩
       clear C3
       go_wp2_with fail
       go_meet
       exact HE
  by_cases k7 : o.kd = 7
  ·have HT := keepH (tk_q (mu := mu) (f := f) (pc := pc) (B := B) (show o.kd = 7 ∨ o.kd = 8 ∨ o.kd = 9 by omega))
   have HQR : Hid (Calls Tryz.prog 46 #[.pointer (some ⟨m, 0, none⟩), .agg #[.int .u8 o.kd, .int .u64 o.k, .int .u64 o.v, .int .u64 o.od, .int .u64 o.hk, .bool r5, .int .i64 r6, .int .i64 r7, .slice kp o.ks.length kc, .int .u64 o.lo, .int .u64 o.hi]] w0 (QTold w0 (askP mu pc o))) := by
    have h := HM.out.quiet HC0.out
    have hbn := HNN.out
    have hk := HKY.out.chg HC0.out (fun _ _ _ x => x)
    obtain ⟨mv, hv, Z, l, h1, h2, h4, h5, hR, hz, rfl, hgl, hlZ⟩ := h.begin
    exact q_ex h1 h4 hR (by omega) (fun z hz2 => by have := (hz (z.1, z.2.2) (List.mem_map.2 ⟨z, hz2, rfl⟩)).2.2; simp only at this; omega) hbn.2.1 (by omega) HOK.out hk
   have HB2 := keepH (fun w c => HBR.out 34 w (chgF HC0.out c))
   have HL9 : Hid ((askP mu pc o).l.length ≤ 17592186044416) := by have := HM.out.ask_len HOK.out; have := HNN.out; show _ ≤ _; omega
   obtain ⟨T, hT⟩ : ∃ T, T = askP mu pc o := ⟨_, rfl⟩
   rw [← hT] at HT HQR HL9
   clear hT
   obtain ⟨q1, hq1⟩ : ∃ q, q = decide (T = errA 33) := ⟨_, rfl⟩
   obtain ⟨q2, hq2⟩ : ∃ q, q = decide (B = errA 34) := ⟨_, rfl⟩
   rw [← hq1, ← hq2] at HT
   rw [← hq2] at HB2
   have HQ1 := keepH hq1
   have HQ2 := keepH hq2
   clear hq1 hq2
   have z2 : (o.kd == 2) = false := by simpa using (show ¬ o.kd = 2 by omega)
   have z3 : (o.kd == 3) = false := by simpa using (show ¬ o.kd = 3 by omega)
   have z4 : (o.kd == 4) = false := by simpa using (show ¬ o.kd = 4 by omega)
   have z5 : (o.kd == 5) = false := by simpa using (show ¬ o.kd = 5 by omega)
   have z7 : (o.kd == 7) = true := by simpa using (show o.kd = 7 by omega)
   clear k7
   go_wp2_with fail
   refine HQR.out.mono ?_
   rintro e w1 ⟨⟨v, rfl, hr⟩, C1⟩
   obtain ⟨p9, c9, rfl, hp9, -⟩ := hr.slice
   have HC1 := keepH C1
   have HB3 : Hid (Calls Tryz.prog 44 #[.agg #[.int .i64 T.e, .bool T.f, .int .u64 T.x, .bool T.d, .int .u64 T.h, .slice p9 T.l.length c9, .int .u64 T.n], .int .i64 33] w1 fun e W' => e = .returned (.bool (decide (T = errA 33))) ∧ Chg (fun _ => False) w1 W') := r_bare hp9 HL9.out
   rw [← HQ1.out] at HB3
   clear C1 hr hp9
   go_wp2_with fail
   refine HB3.out.mono ?_
   rintro e w2 ⟨rfl, C2⟩
   have HC2 : Hid (Chg (fun _ => False) w0 w2) := chgF HC1.out C2
   have Bw2 : Hid (w2.heap[P1]? = some (.cells #[.int .i64 B.e, .bool B.f, .int .u64 B.x, .bool B.d, .int .u64 B.h, .slice pb B.l.length cb, .int .u64 B.n] 39 (0, 0))) := (HC2.out.block _ (lt_of HA0.out) (fun x => x)).trans HA0.out
   have Ow2 : Hid (w2.heap[P]? = some (.cells #[.int .u8 o.kd, .int .u64 o.k, .int .u64 o.v, .int .u64 o.od, .int .u64 o.hk, .bool r5, .int .i64 r6, .int .i64 r7, .slice kp o.ks.length kc, .int .u64 o.lo, .int .u64 o.hi] 35 (0, 0))) := (HC2.out.block _ (lt_of HO0.out) (fun x => x)).trans HO0.out
   have g0 : w2.cell? ⟨P1, 0, none⟩ = some (.int .i64 B.e) := cell_of Bw2.out 0
   have g1 : w2.cell? ⟨P1, 1, none⟩ = some (.bool B.f) := cell_of Bw2.out 1
   have g2 : w2.cell? ⟨P1, 2, none⟩ = some (.int .u64 B.x) := cell_of Bw2.out 2
   have g3 : w2.cell? ⟨P1, 3, none⟩ = some (.bool B.d) := cell_of Bw2.out 3
   have g4 : w2.cell? ⟨P1, 4, none⟩ = some (.int .u64 B.h) := cell_of Bw2.out 4
   have g5 : w2.cell? ⟨P1, 5, none⟩ = some (.slice pb B.l.length cb) := cell_of Bw2.out 5
   have g6 : w2.cell? ⟨P1, 6, none⟩ = some (.int .u64 B.n) := cell_of Bw2.out 6
   clear C2
   cases q1 with
   | true =>
    go_wp2_with fail
    refine (HB2.out w2 HC2.out).mono ?_
    rintro e w3 ⟨rfl, C3⟩
    have HC3 : Hid (Chg (fun _ => False) w0 w3) := chgF HC2.out C3
    clear C3
    cases q2 with
    | true =>
     have HE : Hid (R = true ∧ B.e = 34) := ⟨by rw [HRR.out, HT.out]; rfl, by have := HQ2.out; rw [of_decide_eq_true this.symm]; rfl⟩
     go_wp2_with fail
     exact HKR.out _ HE.out.1 (chgF HC0.out HC3.out) (fun _ => take_keeps (by have := HE.out.2; omega))
    | false =>
     have HE : Hid (Chg (fun _ => False) w0 w3 ∧ R = decide (B = tellP mu f pc o B.h)) := ⟨HC3.out, by rw [HRR.out, HT.out]; simp⟩
     go_wp2_with fail
     go_meet
     exact HE
   | false =>
    have HE : Hid (Chg (fun _ => False) w0 w2 ∧ R = decide (B = tellP mu f pc o B.h)) := ⟨HC2.out, by rw [HRR.out, HT.out]; simp⟩
    go_wp2_with fail
    go_meet
    exact HE
  by_cases k8 : o.kd = 8
  ·have HT := keepH (tk_q (mu := mu) (f := f) (pc := pc) (B := B) (show o.kd = 7 ∨ o.kd = 8 ∨ o.kd = 9 by omega))
   have HQR : Hid (Calls Tryz.prog 46 #[.pointer (some ⟨m, 0, none⟩), .agg #[.int .u8 o.kd, .int .u64 o.k, .int .u64 o.v, .int .u64 o.od, .int .u64 o.hk, .bool r5, .int .i64 r6, .int .i64 r7, .slice kp o.ks.length kc, .int .u64 o.lo, .int .u64 o.hi]] w0 (QTold w0 (askP mu pc o))) := by
    have h := HM.out.quiet HC0.out
    have hbn := HNN.out
    have hk := HKY.out.chg HC0.out (fun _ _ _ x => x)
    obtain ⟨mv, hv, Z, l, h1, h2, h4, h5, hR, hz, rfl, hgl, hlZ⟩ := h.begin
    exact q_ex h1 h4 hR (by omega) (fun z hz2 => by have := (hz (z.1, z.2.2) (List.mem_map.2 ⟨z, hz2, rfl⟩)).2.2; simp only at this; omega) hbn.2.1 (by omega) HOK.out hk
   have HB2 := keepH (fun w c => HBR.out 34 w (chgF HC0.out c))
   have HL9 : Hid ((askP mu pc o).l.length ≤ 17592186044416) := by have := HM.out.ask_len HOK.out; have := HNN.out; show _ ≤ _; omega
   obtain ⟨T, hT⟩ : ∃ T, T = askP mu pc o := ⟨_, rfl⟩
   rw [← hT] at HT HQR HL9
   clear hT
   obtain ⟨q1, hq1⟩ : ∃ q, q = decide (T = errA 33) := ⟨_, rfl⟩
   obtain ⟨q2, hq2⟩ : ∃ q, q = decide (B = errA 34) := ⟨_, rfl⟩
   rw [← hq1, ← hq2] at HT
   rw [← hq2] at HB2
   have HQ1 := keepH hq1
   have HQ2 := keepH hq2
   clear hq1 hq2
   have z2 : (o.kd == 2) = false := by simpa using (show ¬ o.kd = 2 by omega)
   have z3 : (o.kd == 3) = false := by simpa using (show ¬ o.kd = 3 by omega)
   have z4 : (o.kd == 4) = false := by simpa using (show ¬ o.kd = 4 by omega)
   have z5 : (o.kd == 5) = false := by simpa using (show ¬ o.kd = 5 by omega)
   have z7 : (o.kd == 7) = false := by simpa using (show ¬ o.kd = 7 by omega)
   have z8 : (o.kd == 8) = true := by simpa using (show o.kd = 8 by omega)
   clear k8
   go_wp2_with fail
   refine HQR.out.mono ?_
   rintro e w1 ⟨⟨v, rfl, hr⟩, C1⟩
   obtain ⟨p9, c9, rfl, hp9, -⟩ := hr.slice
   have HC1 := keepH C1
   have HB3 : Hid (Calls Tryz.prog 44 #[.agg #[.int .i64 T.e, .bool T.f, .int .u64 T.x, .bool T.d, .int .u64 T.h, .slice p9 T.l.length c9, .int .u64 T.n], .int .i64 33] w1 fun e W' => e = .returned (.bool (decide (T = errA 33))) ∧ Chg (fun _ => False) w1 W') := r_bare hp9 HL9.out
   rw [← HQ1.out] at HB3
   clear C1 hr hp9
   go_wp2_with fail
   refine HB3.out.mono ?_
   rintro e w2 ⟨rfl, C2⟩
   have HC2 : Hid (Chg (fun _ => False) w0 w2) := chgF HC1.out C2
   have Bw2 : Hid (w2.heap[P1]? = some (.cells #[.int .i64 B.e, .bool B.f, .int .u64 B.x, .bool B.d, .int .u64 B.h, .slice pb B.l.length cb, .int .u64 B.n] 39 (0, 0))) := (HC2.out.block _ (lt_of HA0.out) (fun x => x)).trans HA0.out
   have Ow2 : Hid (w2.heap[P]? = some (.cells #[.int .u8 o.kd, .int .u64 o.k, .int .u64 o.v, .int .u64 o.od, .int .u64 o.hk, .bool r5, .int .i64 r6, .int .i64 r7, .slice kp o.ks.length kc, .int .u64 o.lo, .int .u64 o.hi] 35 (0, 0))) := (HC2.out.block _ (lt_of HO0.out) (fun x => x)).trans HO0.out
   have g0 : w2.cell? ⟨P1, 0, none⟩ = some (.int .i64 B.e) := cell_of Bw2.out 0
   have g1 : w2.cell? ⟨P1, 1, none⟩ = some (.bool B.f) := cell_of Bw2.out 1
   have g2 : w2.cell? ⟨P1, 2, none⟩ = some (.int .u64 B.x) := cell_of Bw2.out 2
   have g3 : w2.cell? ⟨P1, 3, none⟩ = some (.bool B.d) := cell_of Bw2.out 3
   have g4 : w2.cell? ⟨P1, 4, none⟩ = some (.int .u64 B.h) := cell_of Bw2.out 4
   have g5 : w2.cell? ⟨P1, 5, none⟩ = some (.slice pb B.l.length cb) := cell_of Bw2.out 5
   have g6 : w2.cell? ⟨P1, 6, none⟩ = some (.int .u64 B.n) := cell_of Bw2.out 6
   clear C2
   cases q1 with
   | true =>
    go_wp2_with fail
    refine (HB2.out w2 HC2.out).mono ?_
    rintro e w3 ⟨rfl, C3⟩
    have HC3 : Hid (Chg (fun _ => False) w0 w3) := chgF HC2.out C3
    clear C3
    cases q2 with
    | true =>
     have HE : Hid (R = true ∧ B.e = 34) := ⟨by rw [HRR.out, HT.out]; rfl, by have := HQ2.out; rw [of_decide_eq_true this.symm]; rfl⟩
     go_wp2_with fail
     exact HKR.out _ HE.out.1 (chgF HC0.out HC3.out) (fun _ => take_keeps (by have := HE.out.2; omega))
    | false =>
     have HE : Hid (Chg (fun _ => False) w0 w3 ∧ R = decide (B = tellP mu f pc o B.h)) := ⟨HC3.out, by rw [HRR.out, HT.out]; simp⟩
     go_wp2_with fail
     go_meet
     exact HE
   | false =>
    have HE : Hid (Chg (fun _ => False) w0 w2 ∧ R = decide (B = tellP mu f pc o B.h)) := ⟨HC2.out, by rw [HRR.out, HT.out]; simp⟩
    go_wp2_with fail
    go_meet
    exact HE
  by_cases k9 : o.kd = 9
  ·have HT := keepH (tk_q (mu := mu) (f := f) (pc := pc) (B := B) (show o.kd = 7 ∨ o.kd = 8 ∨ o.kd = 9 by omega))
   have HQR : Hid (Calls Tryz.prog 46 #[.pointer (some ⟨m, 0, none⟩), .agg #[.int .u8 o.kd, .int .u64 o.k, .int .u64 o.v, .int .u64 o.od, .int .u64 o.hk, .bool r5, .int .i64 r6, .int .i64 r7, .slice kp o.ks.length kc, .int .u64 o.lo, .int .u64 o.hi]] w0 (QTold w0 (askP mu pc o))) := by
    have h := HM.out.quiet HC0.out
    have hbn := HNN.out
    have hk := HKY.out.chg HC0.out (fun _ _ _ x => x)
    obtain ⟨mv, hv, Z, l, h1, h2, h4, h5, hR, hz, rfl, hgl, hlZ⟩ := h.begin
    exact q_ex h1 h4 hR (by omega) (fun z hz2 => by have := (hz (z.1, z.2.2) (List.mem_map.2 ⟨z, hz2, rfl⟩)).2.2; simp only at this; omega) hbn.2.1 (by omega) HOK.out hk
   have HB2 := keepH (fun w c => HBR.out 34 w (chgF HC0.out c))
   have HL9 : Hid ((askP mu pc o).l.length ≤ 17592186044416) := by have := HM.out.ask_len HOK.out; have := HNN.out; show _ ≤ _; omega
   obtain ⟨T, hT⟩ : ∃ T, T = askP mu pc o := ⟨_, rfl⟩
   rw [← hT] at HT HQR HL9
   clear hT
   obtain ⟨q1, hq1⟩ : ∃ q, q = decide (T = errA 33) := ⟨_, rfl⟩
   obtain ⟨q2, hq2⟩ : ∃ q, q = decide (B = errA 34) := ⟨_, rfl⟩
   rw [← hq1, ← hq2] at HT
   rw [← hq2] at HB2
   have HQ1 := keepH hq1
   have HQ2 := keepH hq2
   clear hq1 hq2
   have z2 : (o.kd == 2) = false := by simpa using (show ¬ o.kd = 2 by omega)
   have z3 : (o.kd == 3) = false := by simpa using (show ¬ o.kd = 3 by omega)
   have z4 : (o.kd == 4) = false := by simpa using (show ¬ o.kd = 4 by omega)
   have z5 : (o.kd == 5) = false := by simpa using (show ¬ o.kd = 5 by omega)
   have z7 : (o.kd == 7) = false := by simpa using (show ¬ o.kd = 7 by omega)
   have z8 : (o.kd == 8) = false := by simpa using (show ¬ o.kd = 8 by omega)
   have z9 : (o.kd == 9) = true := by simpa using (show o.kd = 9 by omega)
   clear k9
   go_wp2_with fail
   refine HQR.out.mono ?_
   rintro e w1 ⟨⟨v, rfl, hr⟩, C1⟩
   obtain ⟨p9, c9, rfl, hp9, -⟩ := hr.slice
   have HC1 := keepH C1
   have HB3 : Hid (Calls Tryz.prog 44 #[.agg #[.int .i64 T.e, .bool T.f, .int .u64 T.x, .bool T.d, .int .u64 T.h, .slice p9 T.l.length c9, .int .u64 T.n], .int .i64 33] w1 fun e W' => e = .returned (.bool (decide (T = errA 33))) ∧ Chg (fun _ => False) w1 W') := r_bare hp9 HL9.out
   rw [← HQ1.out] at HB3
   clear C1 hr hp9
   go_wp2_with fail
   refine HB3.out.mono ?_
   rintro e w2 ⟨rfl, C2⟩
   have HC2 : Hid (Chg (fun _ => False) w0 w2) := chgF HC1.out C2
   have Bw2 : Hid (w2.heap[P1]? = some (.cells #[.int .i64 B.e, .bool B.f, .int .u64 B.x, .bool B.d, .int .u64 B.h, .slice pb B.l.length cb, .int .u64 B.n] 39 (0, 0))) := (HC2.out.block _ (lt_of HA0.out) (fun x => x)).trans HA0.out
   have Ow2 : Hid (w2.heap[P]? = some (.cells #[.int .u8 o.kd, .int .u64 o.k, .int .u64 o.v, .int .u64 o.od, .int .u64 o.hk, .bool r5, .int .i64 r6, .int .i64 r7, .slice kp o.ks.length kc, .int .u64 o.lo, .int .u64 o.hi] 35 (0, 0))) := (HC2.out.block _ (lt_of HO0.out) (fun x => x)).trans HO0.out
   have g0 : w2.cell? ⟨P1, 0, none⟩ = some (.int .i64 B.e) := cell_of Bw2.out 0
   have g1 : w2.cell? ⟨P1, 1, none⟩ = some (.bool B.f) := cell_of Bw2.out 1
   have g2 : w2.cell? ⟨P1, 2, none⟩ = some (.int .u64 B.x) := cell_of Bw2.out 2
   have g3 : w2.cell? ⟨P1, 3, none⟩ = some (.bool B.d) := cell_of Bw2.out 3
   have g4 : w2.cell? ⟨P1, 4, none⟩ = some (.int .u64 B.h) := cell_of Bw2.out 4
   have g5 : w2.cell? ⟨P1, 5, none⟩ = some (.slice pb B.l.length cb) := cell_of Bw2.out 5
   have g6 : w2.cell? ⟨P1, 6, none⟩ = some (.int .u64 B.n) := cell_of Bw2.out 6
   clear C2
   cases q1 with
   | true =>
    go_wp2_with fail
    refine (HB2.out w2 HC2.out).mono ?_
    rintro e w3 ⟨rfl, C3⟩
    have HC3 : Hid (Chg (fun _ => False) w0 w3) := chgF HC2.out C3
    clear C3
    cases q2 with
    | true =>
     have HE : Hid (R = true ∧ B.e = 34) := ⟨by rw [HRR.out, HT.out]; rfl, by have := HQ2.out; rw [of_decide_eq_true this.symm]; rfl⟩
     go_wp2_with fail
     exact HKR.out _ HE.out.1 (chgF HC0.out HC3.out) (fun _ => take_keeps (by have := HE.out.2; omega))
    | false =>
     have HE : Hid (Chg (fun _ => False) w0 w3 ∧ R = decide (B = tellP mu f pc o B.h)) := ⟨HC3.out, by rw [HRR.out, HT.out]; simp⟩
     go_wp2_with fail
     go_meet
     exact HE
   | false =>
    have HE : Hid (Chg (fun _ => False) w0 w2 ∧ R = decide (B = tellP mu f pc o B.h)) := ⟨HC2.out, by rw [HRR.out, HT.out]; simp⟩
    go_wp2_with fail
    go_meet
    exact HE
  by_cases k10 : o.kd = 10
  ·have HT := keepH (tk_10 (mu := mu) (f := f) (pc := pc) (B := B) k10)
   have HS : Hid (Calls Tryz.prog 47 #[.agg #[.int .i64 B.e, .bool B.f, .int .u64 B.x, .bool B.d, .int .u64 B.h, .slice pb B.l.length cb, .int .u64 B.n], .agg #[.int .i64 0, .bool false, .int .u64 0, .bool false, .int .u64 0, .slice none 0 0, .int .u64 B.n]] w0 fun e W' => e = .returned (.bool R) ∧ Chg (fun _ => False) w0 W') := by
    have q := r_same B.e 0 B.f false B.d false B.x 0 B.h 0 B.n B.n pb none cb 0 B.l [] w0 (HPB.out.chg HC0.out) (.inl rfl) HNN.out.2.2.2 (by simp)
    rw [show decide ((⟨B.e, B.f, B.x, B.d, B.h, B.l, B.n⟩ : Ans) = ⟨0, false, 0, false, 0, [], B.n⟩) = R from by rw [HRR.out, HT.out]] at q
    exact q
   have z2 : (o.kd == 2) = false := by simpa using (show ¬ o.kd = 2 by omega)
   have z3 : (o.kd == 3) = false := by simpa using (show ¬ o.kd = 3 by omega)
   have z4 : (o.kd == 4) = false := by simpa using (show ¬ o.kd = 4 by omega)
   have z5 : (o.kd == 5) = false := by simpa using (show ¬ o.kd = 5 by omega)
   have z7 : (o.kd == 7) = false := by simpa using (show ¬ o.kd = 7 by omega)
   have z8 : (o.kd == 8) = false := by simpa using (show ¬ o.kd = 8 by omega)
   have z9 : (o.kd == 9) = false := by simpa using (show ¬ o.kd = 9 by omega)
   have z10 : (o.kd == 10) = true := by simpa using (show o.kd = 10 by omega)
   have HKT : Hid (R = true → doF o B f = f ∧ doP o B f pc = pc) := fun _ => ⟨doF_err (.inl ⟨by omega, by omega, by omega⟩), doP_err (.inl ⟨by omega, by omega⟩)⟩
   clear k10
   go_wp2_with fail
   refine HS.out.mono ?_
   rintro e w1 ⟨rfl, C1⟩
   have HC1 := keepH C1
   clear C1
   go_wp2_with fail
   exact HKS.out _ _ rfl (chgF HC0.out HC1.out) HKT.out
  have HE : Hid (Chg (fun _ => False) w0 w0 ∧ R = decide (B = tellP mu f pc o B.h)) := ⟨Chg.refl _ _, by rw [HRR.out]; exact tk_o (by omega) k5 (by omega) k10⟩
  have z2 : (o.kd == 2) = false := by simpa using (show ¬ o.kd = 2 by omega)
  have z3 : (o.kd == 3) = false := by simpa using (show ¬ o.kd = 3 by omega)
  have z4 : (o.kd == 4) = false := by simpa using (show ¬ o.kd = 4 by omega)
  have z5 : (o.kd == 5) = false := by simpa using (show ¬ o.kd = 5 by omega)
  have z7 : (o.kd == 7) = false := by simpa using (show ¬ o.kd = 7 by omega)
  have z8 : (o.kd == 8) = false := by simpa using (show ¬ o.kd = 8 by omega)
  have z9 : (o.kd == 9) = false := by simpa using (show ¬ o.kd = 9 by omega)
  have z10 : (o.kd == 10) = false := by simpa using (show ¬ o.kd = 10 by omega)
  go_wp2_with fail
  go_meet
  exact HE
 case rest =>
  have HZ := hcut
  clear hcut xo0 xo1 xo2 xo3 xo4 xo5 xo6 xo7 xo8 xo9 xo10 b0 b1 b2 b3 b4 b5 b6
  have HC1 : Hid (Chg (fun _ => False) W wc) := chgF HC0.out HZ.out.1
  have B1 : wc.heap[P1]? = some (.cells #[.int .i64 B.e, .bool B.f, .int .u64 B.x, .bool B.d, .int .u64 B.h, .slice pb B.l.length cb, .int .u64 B.n] 39 (0, 0)) := (HZ.out.1.block _ (lt_of HA0.out) (fun x => x)).trans HA0.out
  have O1 : wc.heap[P]? = some (.cells #[.int .u8 o.kd, .int .u64 o.k, .int .u64 o.v, .int .u64 o.od, .int .u64 o.hk, .bool r5, .int .i64 r6, .int .i64 r7, .slice kp o.ks.length kc, .int .u64 o.lo, .int .u64 o.hi] 35 (0, 0)) := (HZ.out.1.block _ (lt_of HO0.out) (fun x => x)).trans HO0.out
  have HFK := keepH (r_fork (HM.out.quiet HC1.out) HNN.out.1 (fun b hb => by have := HAA.out b hb; have := HC1.out.size; omega))
  have HB1 := keepH B1
  have HO1 := keepH O1
  clear B1 O1
  go_wp2_with fail
  refine HFK.out.mono ?_
  rintro e w2 ⟨rfl, M2, C2⟩
  obtain ⟨m2, hm2⟩ : ∃ m2, m2 = wc.heap.size := ⟨_, rfl⟩
  rw [← hm2] at M2 ⊢
  have HC2 : Hid (Chg (fun _ => False) W w2) := chgF HC1.out C2
  have HB2 : Hid (w2.heap[P1]? = some (.cells #[.int .i64 B.e, .bool B.f, .int .u64 B.x, .bool B.d, .int .u64 B.h, .slice pb B.l.length cb, .int .u64 B.n] 39 (0, 0))) := (C2.block _ (lt_of HB1.out) (fun x => x)).trans HB1.out
  have HO2 : Hid (w2.heap[P]? = some (.cells #[.int .u8 o.kd, .int .u64 o.k, .int .u64 o.v, .int .u64 o.od, .int .u64 o.hk, .bool r5, .int .i64 r6, .int .i64 r7, .slice kp o.ks.length kc, .int .u64 o.lo, .int .u64 o.hi] 35 (0, 0))) := (C2.block _ (lt_of HO1.out) (fun x => x)).trans HO1.out
  have HM2 : Hid (RB A w2 m2 mu f pc n ∧ m < m2 ∧ P < m2 ∧ P1 < m2) := ⟨M2, by have := HLN.out; have := HZ.out.1.size; omega, by have := HLN.out; have := HZ.out.1.size; omega, by have := HLN.out; have := HZ.out.1.size; omega⟩
  obtain ⟨T, hT⟩ : ∃ T, T = tellP mu f pc o B.h := ⟨_, rfl⟩
  have HDO : Hid (∀ w, Chg (fun _ => False) w2 w → Calls Tryz.prog 15 #[.pointer (some ⟨m2, 0, none⟩), .agg #[.int .u8 o.kd, .int .u64 o.k, .int .u64 o.v, .int .u64 o.od, .int .u64 o.hk, .bool r5, .int .i64 r6, .int .i64 r7, .slice kp o.ks.length kc, .int .u64 o.lo, .int .u64 o.hi], .int .u64 B.h] w (DDid A w m2 mu o f pc n T)) := fun w c => by
   rw [hT]
   exact do_ex (M2.quiet c) HNN.out.1 HNN.out.2.1 (fun b hb => by have := HAA.out b hb; have := HC2.out.size; have := c.size; omega) HNN.out.2.2.1 HOK.out (HKY.out.chg (chgF HC2.out c) (fun _ _ _ x => x))
  have HTT : Hid (T = tellP mu f pc o B.h) := hT
  clear C2 hm2 M2 hT
  have f0 : w2.cell? ⟨P1, 4, none⟩ = some (.int .u64 B.h) := cell_of HB2.out 4
  have n0 : w2.cell? ⟨P, 0, none⟩ = some (.int .u8 o.kd) := cell_of HO2.out 0
  have n1 : w2.cell? ⟨P, 1, none⟩ = some (.int .u64 o.k) := cell_of HO2.out 1
  have n2 : w2.cell? ⟨P, 2, none⟩ = some (.int .u64 o.v) := cell_of HO2.out 2
  have n3 : w2.cell? ⟨P, 3, none⟩ = some (.int .u64 o.od) := cell_of HO2.out 3
  have n4 : w2.cell? ⟨P, 4, none⟩ = some (.int .u64 o.hk) := cell_of HO2.out 4
  have n5 : w2.cell? ⟨P, 5, none⟩ = some (.bool r5) := cell_of HO2.out 5
  have n6 : w2.cell? ⟨P, 6, none⟩ = some (.int .i64 r6) := cell_of HO2.out 6
  have n7 : w2.cell? ⟨P, 7, none⟩ = some (.int .i64 r7) := cell_of HO2.out 7
  have n8 : w2.cell? ⟨P, 8, none⟩ = some (.slice kp o.ks.length kc) := cell_of HO2.out 8
  have n9 : w2.cell? ⟨P, 9, none⟩ = some (.int .u64 o.lo) := cell_of HO2.out 9
  have n10 : w2.cell? ⟨P, 10, none⟩ = some (.int .u64 o.hi) := cell_of HO2.out 10
  have HLT : Hid (T.l.length ≤ 17592186044416) := by
   have h1 := HM.out.ask_len HOK.out
   have h2 := HNN.out
   show _ ≤ _
   rw [HTT.out]
   by_cases q : o.kd = 7 ∨ o.kd = 8 ∨ o.kd = 9
   ·rw [askP_is q]; omega
   ·have : (tellP mu f pc o B.h).l = [] := by
      unfold tellP
      split
      ·rfl
      split
      ·rfl
      split
      ·split <;> rfl
      split
      ·split <;> rfl
      split <;> (try split) <;> rfl
    rw [this]; simp
  go_upto_region 22 with fail
  have HS2 : Hid ((fun w => w.heap[P]? = some (.cells #[.int .u8 o.kd, .int .u64 o.k, .int .u64 o.v, .int .u64 o.od, .int .u64 o.hk, .bool r5, .int .i64 r6, .int .i64 r7, .slice kp o.ks.length kc, .int .u64 o.lo, .int .u64 o.hi] 35 (0, 0)) ∧ w.heap[P1]? = some (.cells #[.int .i64 B.e, .bool B.f, .int .u64 B.x, .bool B.d, .int .u64 B.h, .slice pb B.l.length cb, .int .u64 B.n] 39 (0, 0))) w2.drew) := keepH ⟨HO2.out, HB2.out⟩
  clear f0 n0 n1 n2 n3 n4 n5 n6 n7 n8 n9 n10
  refine wp_region_held_drew (S := fun w => w.heap[P]? = some (.cells #[.int .u8 o.kd, .int .u64 o.k, .int .u64 o.v, .int .u64 o.od, .int .u64 o.hk, .bool r5, .int .i64 r6, .int .i64 r7, .slice kp o.ks.length kc, .int .u64 o.lo, .int .u64 o.hi] 35 (0, 0)) ∧ w.heap[P1]? = some (.cells #[.int .i64 B.e, .bool B.f, .int .u64 B.x, .bool B.d, .int .u64 B.h, .slice pb B.l.length cb, .int .u64 B.n] 39 (0, 0))) (by kernel_rfl) (HS2.out) ?_
  intro hHeld
  refine wT (v := ?_) 0 rfl (by rfl) ?_ hHeld ?_
  rotate_left
  ·intro w hSw
   try dsimp only at hSw
   go_simp
   try with_reducible rfl
  try simp only [Act.put, lj]
  refine wT (v := ?_) 1 rfl (by rfl) ?_ hHeld ?_
  rotate_left
  ·intro w hSw
   try dsimp only at hSw
   have o0 := cell_of hSw.1 0
   have o1 := cell_of hSw.1 1
   have o2 := cell_of hSw.1 2
   have o3 := cell_of hSw.1 3
   have o4 := cell_of hSw.1 4
   have o5 := cell_of hSw.1 5
   have o6 := cell_of hSw.1 6
   have o7 := cell_of hSw.1 7
   have o8 := cell_of hSw.1 8
   have o9 := cell_of hSw.1 9
   have o10 := cell_of hSw.1 10
   go_simp
   try with_reducible rfl
  try simp only [Act.put, lj]
  refine wT (v := ?_) 2 rfl (by rfl) ?_ hHeld ?_
  rotate_left
  ·intro w hSw
   try dsimp only at hSw
   go_simp
   try with_reducible rfl
  try simp only [Act.put, lj]
  refine wT (v := ?_) 3 rfl (by rfl) ?_ hHeld ?_
  rotate_left
  ·intro w hSw
   try dsimp only at hSw
   have y4 := cell_of hSw.2 4
   go_simp
   try with_reducible rfl
  try simp only [Act.put, lj]
  refine wT (v := ?_) 5 rfl (by rfl) ?_ hHeld ?_
  rotate_left
  ·intro w hSw
   try dsimp only at hSw
   have y0 := cell_of hSw.2 0
   have y1 := cell_of hSw.2 1
   have y2 := cell_of hSw.2 2
   have y3 := cell_of hSw.2 3
   have y4 := cell_of hSw.2 4
   have y5 := cell_of hSw.2 5
   have y6 := cell_of hSw.2 6
   go_simp
   try with_reducible rfl
  try simp only [Act.put, lj]
  refine wR 4 rfl (fun KK hKK => ?_)
  go_simp
  refine (HDO.out _ (by first | exact (Chg.refl _ _).drew | exact chg_dn (Chg.refl _ _) 1)).mono ?_
  rintro e w5 ⟨⟨p, c, rfl, hp⟩, hM5, hc5⟩
  unfold ansC
  have HC5 : Hid (Chg (fun k => k = m2) w2 w5) := ⟨hc5.os, hc5.tape, hc5.output, hc5.size, hc5.block⟩
  have HP5 := keepH hp
  have HM5 := keepH hM5
  clear hp hM5 hc5
  have hcc : _ ∧ _ := And.intro ((HC5.out.block P (lt_of HO2.out) (by have := HM2.out; omega)).trans HO2.out) ((HC5.out.block P1 (lt_of HB2.out) (by have := HM2.out; omega)).trans HB2.out)
  have HX5 : Hid (Chg (fun _ => False) W w5) := HC2.out.trans HC5.out (fun _ _ x => x) (fun k hk e => by have := HM2.out; have := HLN.out; omega)
  have HSM : Hid (Calls Tryz.prog 47 #[.agg #[.int .i64 T.e, .bool T.f, .int .u64 T.x, .bool T.d, .int .u64 T.h, .slice p T.l.length c, .int .u64 T.n], .agg #[.int .i64 B.e, .bool B.f, .int .u64 B.x, .bool B.d, .int .u64 B.h, .slice pb B.l.length cb, .int .u64 B.n]] w5 fun e W' => e = .returned (.bool R) ∧ Chg (fun _ => False) w5 W') := by
   have q := r_same T.e B.e T.f B.f T.d B.d T.x B.x T.h B.h T.n B.n p pb c cb T.l B.l w5 HP5.out (HPB.out.chg HX5.out) (by have := HLT.out; omega) HNN.out.2.2.2
   rw [show decide ((⟨T.e, T.f, T.x, T.d, T.h, T.l, T.n⟩ : Ans) = ⟨B.e, B.f, B.x, B.d, B.h, B.l, B.n⟩) = R from by rw [HZ.out.2, ← HTT.out]; exact decide_eq_decide.2 ⟨fun e => Eq.symm e, fun e => Eq.symm e⟩] at q
   exact q
  refine hKK.out _ _ ?_ (fun hHeld => ?_)
  ·exact hcc
  clear hKK KK
  try simp only [Act.put, lj]
  refine wR 6 rfl (fun KK hKK => ?_)
  go_simp
  refine HSM.out.mono ?_
  rintro e w6 ⟨rfl, C6⟩
  have hcc2 : _ ∧ _ := And.intro ((C6.block P (lt_of hcc.1) (fun x => x)).trans hcc.1) ((C6.block P1 (lt_of hcc.2) (fun x => x)).trans hcc.2)
  have HC6 := keepH C6
  clear C6
  refine hKK.out _ _ ?_ (fun hHeld => ?_)
  ·exact hcc2
  clear hKK KK
  try simp only [Act.put, lj]
  refine wT (v := ?_) 7 rfl (by rfl) ?_ hHeld ?_
  rotate_left
  ·intro w hSw
   try dsimp only at hSw
   go_simp
   try with_reducible rfl
  try simp only [Act.put, lj]
  refine wpAnyH_done (by kernel_rfl) ?_ _
  go_simp
  clear hHeld HS2
  have HX6 : Hid (Chg (fun _ => False) W w6) := chgF HX5.out HC6.out
  cases R with
  | false =>
   go_wp2_with fail
   exact HKR.out _ rfl HX6.out (fun e => by cases e)
  | true =>
   obtain ⟨pm, ph, nm, cm, nh, ch, e2⟩ := (HM5.out.quiet HC6.out).cells
   obtain ⟨pm1, ph1, nm1, cm1, nh1, ch1, e1⟩ := (HM.out.quiet HX6.out).cells
   have HE1 := keepH e1
   have HE2 := keepH e2
   have HMF := keepH (HM5.out.quiet HC6.out)
   have t0 := cell_of e2 0
   have t1 := cell_of e2 1
   have t2 := cell_of e2 2
   have s0 := cell_of e1 0
   have s1 := cell_of e1 1
   have s2 := cell_of e1 2
   have r0 := free_of e1 0
   have r1 := free_of e1 1
   have r2 := free_of e1 2
   clear e1 e2
   go_wp2_with fail
   have hR2 : T = B := tk_is HTT.out HZ.out.2
   have HMG : Hid (RB A w6 m2 mu (doF o B f) (doP o B f pc) (n + 1)) := by rw [← hR2]; exact HMF.out
   rw [HKD.out]
   exact DTook.done HMG.out HE1.out HE2.out HX6.out
end Go.Proofs.YtahgaghokpicgaaGreat
