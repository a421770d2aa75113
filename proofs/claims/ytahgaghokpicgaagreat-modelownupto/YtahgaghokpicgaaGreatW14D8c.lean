/- The document's model, told whole: Do of any operation. -/
import Derived.Test.YtahgaghokpicgaaGreatW13Npe
namespace Go.Proofs.YtahgaghokpicgaaGreat
open Go.RowKit Go.Maps
set_option linter.unusedVariables false
set_option maxHeartbeats 16000000
theorem RB.begin {A : Nat → Prop} {W : World} {m : Nat} {mu : Int} {f : Nat → Option Nat} {pc : Nat → Option (Nat → Option Nat)} {n : Nat} (h : RB A W m mu f pc n) : ∃ (mv hv : Value) (Z : List Held6) (l : List (Nat × Nat)), RMod W m mu mv hv (Z.map (fun z => (z.1, z.2.1))) ∧ RL W mv f l ∧ (∀ z ∈ Z, RL W z.2.1 z.2.2.1 z.2.2.2) ∧ ((∀ b, mv.ownBlock = some b → ¬ A b) ∧ ∀ z ∈ Z, ∀ b, z.2.1.ownBlock = some b → ¬ A b) ∧ Rising (Z.map (fun z => (z.1, z.2.2))) ∧ (∀ z ∈ Z.map (fun z => (z.1, z.2.2)), z.1 < 18446744073709551616 ∧ z.1 ≠ 0 ∧ z.2.2.length ≤ n) ∧ pc = hP (Z.map (fun z => (z.1, z.2.2))) ∧ l.length ≤ n ∧ Z.length ≤ n := by
 obtain ⟨l, H, h1, h2, h3, h4, h5, h6⟩ := h.ex
 obtain ⟨mv, hv, Z, g1, g2, rfl, g4, g5⟩ := h1.ex
 exact ⟨mv, hv, Z, l, g1, g2, g4, g5, h2, h3, h4, h5, by simpa using h6⟩
theorem doP_same {o : OpP} {T : Ans} {f : Nat → Option Nat} {pc : Nat → Option (Nat → Option Nat)} (h : (o.kd ≠ 5 ∧ o.kd ≠ 6) ∨ T.e ≠ 0 ∨ (o.kd = 5 ∧ T.h = 0)) : doP o T f pc = pc := by
 funext k
 unfold doP
 rw [if_neg (by omega), if_neg (by omega)]
theorem doF_same {o : OpP} {T : Ans} {f : Nat → Option Nat} (h : (o.kd ≠ 2 ∧ o.kd ≠ 3 ∧ (o.kd = 4 → T.d = false)) ∨ T.e ≠ 0) : doF o T f = f := by
 unfold doF
 rw [if_neg, if_neg]
 ·rintro ⟨a, b⟩; rcases h with h | h <;> omega
 ·rintro ⟨a, b | ⟨b, c⟩⟩
  ·rcases h with h | h <;> omega
  ·rcases h with h | h
   ·rw [h.2.2 b] at c; cases c
   ·omega
def DDid (A : Nat → Prop) (W : World) (m : Nat) (mu : Nat) (o : OpP) (f : Nat → Option Nat) (pc : Nat → Option (Nat → Option Nat)) (n : Nat) (T : Ans) (e : Ending) (W' : World) : Prop :=
 DTold W' T e ∧ RB A W' m mu (doF o T f) (doP o T f pc) (n + 1) ∧ Chg (fun k => k = m) W W'
theorem DDid.still {A : Nat → Prop} {W : World} {m : Nat} {mu : Nat} {o : OpP} {f : Nat → Option Nat} {pc : Nat → Option (Nat → Option Nat)} {n : Nat} {T : Ans} {e : Ending} {W' : World} (h : RB A W m mu f pc n) (h1 : DTold W' T e) (c : Chg (fun _ => False) W W') (hf : doF o T f = f) (hp : doP o T f pc = pc) : DDid A W m mu o f pc n T e W' :=
 ⟨h1, by rw [hf, hp]; exact (h.quiet c).mono (Nat.le_succ n), c.mono (fun _ _ x => x.elim)⟩
theorem DDid.wrote {A : Nat → Prop} {W : World} {m : Nat} {mu : Nat} {o : OpP} {f f' : Nat → Option Nat} {n : Nat} {T : Ans} {mv hv : Value} {Z : List Held6} (h1 : RMod W m mu mv hv (Z.map (fun z => (z.1, z.2.1)))) (h4 : ∀ z ∈ Z, RL W z.2.1 z.2.2.1 z.2.2.2) (hA : ∀ b, A b → b < W.heap.size) (h5 : (∀ b, mv.ownBlock = some b → ¬ A b) ∧ ∀ z ∈ Z, ∀ b, z.2.1.ownBlock = some b → ¬ A b) (hR : Rising (Z.map (fun z => (z.1, z.2.2)))) (hz : ∀ z ∈ Z.map (fun z => (z.1, z.2.2)), z.1 < 18446744073709551616 ∧ z.1 ≠ 0 ∧ z.2.2.length ≤ n) (hl : Z.length ≤ n) {l' : List (Nat × Nat)} (hl' : l'.length ≤ n + 1)
    (hT : T.l = []) {e : Ending} {W' : World} (h : Wrote W m mu hv (Z.map (fun z => (z.1, z.2.1))) (ansC T none 0) f' l' e W') (hf : doF o T f = f') (hp : doP o T f (hP (Z.map (fun z => (z.1, z.2.2)))) = hP (Z.map (fun z => (z.1, z.2.2)))) : DDid A W m mu o f (hP (Z.map (fun z => (z.1, z.2.2)))) n T e W' := by
 obtain ⟨e, ⟨v, hm, hr, hv9⟩, hc⟩ := h
 refine ⟨DTold.plain hT e, ?_, hc⟩
 rw [hf, hp]
 exact ⟨l', _, RM6.map h1 h4 hm hr (fun b hb x => by have := hv9 b hb; have := hA b x; omega) h5.2 hc, hR, fun z hz2 => ⟨(hz z hz2).1, (hz z hz2).2.1, by have := (hz z hz2).2.2; omega⟩, rfl, hl', by simpa using Nat.le_succ_of_le hl⟩
theorem do_ex {A : Nat → Prop} {W : World} {m mu n th : Nat} {f : Nat → Option Nat} {pc : Nat → Option (Nat → Option Nat)} (h : RB A W m mu f pc n) (hn : n ≤ 3000000) (hmu : mu ≤ 1024) (hA : ∀ b, A b → b < W.heap.size) (hth : th < 18446744073709551616)
    {o : OpP} (ho : o.Ok) {r5 : Bool} {r6 r7 : Int} {kp : Option Addr} {kc : Nat} (hks : KeysAt W kp o.ks) :
    Calls Tryz.prog 15 #[.pointer (some ⟨m, 0, none⟩), .agg (opC o r5 r6 r7 kp kc), .int .u64 th] W (DDid A W m mu o f pc n (tellP mu f pc o th)) := by
 obtain ⟨mv, hv, Z, l, h1, h2, h4, h5, hR, hz, rfl, hgl0, hlZ⟩ := h.begin
 have hgl : l.length ≤ 4398046510000 := by omega
 have hl2 : (Z.map (fun z => (z.1, z.2.1))).length ≤ 4000000 := by simp; omega
 have hbZ : ∀ z ∈ Z, z.2.2.2.length ≤ 4398046510000 := fun z hz2 => by have := (hz (z.1, z.2.2) (List.mem_map.2 ⟨z, hz2, rfl⟩)).2.2; simp only at this; omega
 have hk := ho.k
 have hx := ho.v
 by_cases q : o.kd = 7 ∨ o.kd = 8 ∨ o.kd = 9
 ·rw [askP_is q]
  have hq : ∀ w, Chg (fun _ => False) W w → Calls Tryz.prog 46 #[.pointer (some ⟨m, 0, none⟩), .agg #[.int .u8 o.kd, .int .u64 o.k, .int .u64 o.v, .int .u64 o.od, .int .u64 o.hk, .bool r5, .int .i64 r6, .int .i64 r7, .slice kp o.ks.length kc, .int .u64 o.lo, .int .u64 o.hi]] w fun e w' => (∃ x0 x1 x2 x3 x4 x5 x6, e = .returned (.agg #[x0, x1, x2, x3, x4, x5, x6]) ∧ (#[x0, x1, x2, x3, x4, x5, x6] : Array Value).all (·.oneCell') = true) ∧ QTold w (askP mu (hP (Z.map (fun z => (z.1, z.2.2)))) o) e w' ∧ Chg (fun _ => False) w w' := fun w hc =>
   (q_ex (h1.quiet hc) (fun z hz => (h4 z hz).quiet hc) hR (by omega) hbZ hmu q ho (hks.chg hc (fun _ _ _ x => x))).mono (fun e w' hh => hh.seven)
  have fin : ∀ (e : Ending) (W' : World), ((∃ w1 w2, Chg (fun _ => False) W w1 ∧ QTold w1 (askP mu (hP (Z.map (fun z => (z.1, z.2.2)))) o) e w2 ∧ Chg (fun k => k < w1.heap.size) w2 W') ∧ Chg (fun _ => False) W W') → DDid A W m mu o f (hP (Z.map (fun z => (z.1, z.2.2)))) n (askP mu (hP (Z.map (fun z => (z.1, z.2.2)))) o) e W' := by
   rintro e W' ⟨⟨w1, w2, -, hT, c2⟩, hc⟩
   exact DDid.still h (hT.told c2) hc (doF_same (.inl ⟨by omega, by omega, by omega⟩)) (doP_same (.inl ⟨by omega, by omega⟩))
  obtain ⟨kd, k, v, od, hk9, ks, lo, hi⟩ := o
  simp only at q hk hx
  rcases q with rfl | rfl | rfl
  ·exact (d_query7 h1 h2 hgl hk (Pq := fun w e w' => QTold w (askP mu (hP (Z.map (fun z => (z.1, z.2.2)))) ⟨7, k, v, od, hk9, ks, lo, hi⟩) e w') hq).mono fin
  ·exact (d_query8 h1 h2 hgl hk (Pq := fun w e w' => QTold w (askP mu (hP (Z.map (fun z => (z.1, z.2.2)))) ⟨8, k, v, od, hk9, ks, lo, hi⟩) e w') hq).mono fin
  ·exact (d_query9 h1 h2 hgl hk (Pq := fun w e w' => QTold w (askP mu (hP (Z.map (fun z => (z.1, z.2.2)))) ⟨9, k, v, od, hk9, ks, lo, hi⟩) e w') hq).mono fin
 ·obtain ⟨kd, k, v, od, hk9, ks, lo, hi⟩ := o
  simp only at q hk hx
  have hh9 : hk9 < 18446744073709551616 := ho.hk
  unfold opC
  simp only
  by_cases k4 : kd = 4
  ·subst k4
   have eT : tellP mu f (hP (Z.map (fun z => (z.1, z.2.2)))) ⟨4, k, v, od, hk9, ks, lo, hi⟩ th = ⟨0, (f k).isSome, (f k).getD 0, decide (f k = some od), 0, [], 0⟩ := by unfold tellP; rw [if_pos rfl]
   rw [eT]
   by_cases hy : (f k).isSome = true ∧ (((f k).getD 0 : Nat) : Int) = (od : Int)
   ·have e1 : f k = some od := by
      cases e : f k with
      | none => rw [e] at hy; cases hy.1
      | some y => rw [e] at hy; have q := hy.2; simp only [Option.getD_some] at q; exact congrArg some (by omega)
    have e2 : decide (f k = some od) = true := decide_eq_true e1
    rw [e2]
    refine (d_swap h1 h2 hgl hk hx hy.1 hy.2).mono (fun e W' hh => DDid.wrote h1 h4 hA h5 hR hz hlZ (by have := withL_le l k v; omega) rfl hh ?_ (doP_same (.inl ⟨by simp, by simp⟩)))
    unfold doF
    rw [if_pos ⟨rfl, .inr ⟨rfl, rfl⟩⟩]
   ·have e2 : decide (f k = some od) = false := decide_eq_false (fun e => hy (by rw [e]; exact ⟨rfl, rfl⟩))
    rw [e2]
    exact (d_swapno h1 h2 hgl hk hy).mono (fun e W' hh => DDid.still h (DTold.plain rfl hh.1) hh.2 (doF_same (.inl ⟨by simp, by simp, fun _ => rfl⟩)) (doP_same (.inl ⟨by simp, by simp⟩)))
  by_cases k123 : kd = 1 ∨ kd = 2 ∨ kd = 3
  ·have eT : tellP mu f (hP (Z.map (fun z => (z.1, z.2.2)))) ⟨kd, k, v, od, hk9, ks, lo, hi⟩ th = ⟨0, (f k).isSome, (f k).getD 0, false, 0, [], 0⟩ := by unfold tellP; rw [if_neg k4, if_pos k123]
   rw [eT]
   rcases k123 with rfl | rfl | rfl
   ·exact (d_get h1 h2 hgl hk).mono (fun e W' hh => DDid.still h (DTold.plain rfl hh.1) hh.2 (doF_same (.inl ⟨by simp, by simp, fun _ => rfl⟩)) (doP_same (.inl ⟨by simp, by simp⟩)))
   ·refine (d_put h1 h2 hgl hk hx (v := 0)).mono (fun e W' hh => DDid.wrote h1 h4 hA h5 hR hz hlZ (by have := withL_le l k v; omega) rfl hh ?_ (doP_same (.inl ⟨by simp, by simp⟩)))
    unfold doF
    rw [if_pos ⟨rfl, .inl rfl⟩]
   ·refine (d_delete h1 h2 hgl hk).mono (fun e W' hh => DDid.wrote h1 h4 hA h5 hR hz hlZ (by have := List.length_filter_le (fun x : Nat × Nat => x.1 != k) l; omega) rfl hh ?_ (doP_same (.inl ⟨by simp, by simp⟩)))
    unfold doF
    rw [if_neg (by rintro ⟨-, a | ⟨a, -⟩⟩ <;> exact absurd a (by simp)), if_pos ⟨rfl, rfl⟩]
  by_cases k5 : kd = 5
  ·subst k5
   have eT : tellP mu f (hP (Z.map (fun z => (z.1, z.2.2)))) ⟨5, k, v, od, hk9, ks, lo, hi⟩ th = if (hP (Z.map (fun z => (z.1, z.2.2))) th).isSome then errA 32 else ⟨0, false, 0, false, th, [], 0⟩ := by unfold tellP; rw [if_neg (by simp), if_neg (by simp), if_pos rfl]
   rw [eT]
   by_cases hd0 : th = 0
   ·subst hd0
    rw [h.zero]
    exact (d_snap0 h1 h2 hgl hk).mono (fun e W' hh => DDid.still h (DTold.plain rfl hh.1) hh.2 (doF_same (.inl ⟨by simp, by simp, fun _ => rfl⟩)) (doP_same (.inr (.inr ⟨rfl, rfl⟩))))
   ·rcases place_cases (Z.map (fun z => (z.1, z.2.1))) th with hp | ⟨i, hp, hi2, hi3⟩
    ·have hno := placeI_neg hp
     rw [hP_none hno]
     refine (d_snaphold h1 h2 hgl hk hl2 hd0 hth hp).mono ?_
     rintro e W' ⟨e, ⟨v2, hm⟩, hc⟩
     refine ⟨DTold.plain rfl e, ?_, hc⟩
     have e1 : doF ⟨5, k, v, od, hk9, ks, lo, hi⟩ (if (none : Option (Nat → Option Nat)).isSome then errA 32 else ⟨0, false, 0, false, th, [], 0⟩) f = f := doF_same (.inl ⟨by simp, by simp, fun _ => rfl⟩)
     have e2 : doP ⟨5, k, v, od, hk9, ks, lo, hi⟩ (if (none : Option (Nat → Option Nat)).isSome then errA 32 else ⟨0, false, 0, false, th, [], 0⟩) f (hP (Z.map (fun z => (z.1, z.2.2)))) = hP (holdB (Z.map (fun z => (z.1, z.2.2))) th (f, l)) := by
      rw [hP_hold hR hno]
      funext j
      unfold doP
      rw [if_neg (show ¬ (none : Option (Nat → Option Nat)).isSome = true by decide), if_pos ⟨rfl, rfl, hd0⟩]
     rw [e1, e2]
     refine ⟨l, _, RM6.hold h1 h2 h4 hm h5 hc, holdB_rising hR hno _, fun z hz2 => ?_, rfl, by omega, by rw [holdB_len]; simp; omega⟩
     rcases holdB_mem2.1 hz2 with rfl | hz2
     ·exact ⟨hth, hd0, by simp only; omega⟩
     ·exact ⟨(hz z hz2).1, (hz z hz2).2.1, by have := (hz z hz2).2.2; omega⟩
    ·have e1 : (hP (Z.map (fun z => (z.1, z.2.2))) th).isSome = true := by
       have hi4 : i < Z.length := by simpa using hi2
       rw [hP_isSome hR]
       exact ⟨(Z[i].1, Z[i].2.2), List.mem_map.2 ⟨_, List.getElem_mem hi4, rfl⟩, by simpa using hi3⟩
     rw [if_pos e1]
     exact (d_snapfull h1 h2 hgl hk hl2 hd0 hp).mono (fun e W' hh => DDid.still h (DTold.plain rfl hh.1) hh.2 (doF_same (.inr (by decide))) (doP_same (.inr (.inl (by decide)))))
  by_cases k6 : kd = 6
  ·subst k6
   have eT : tellP mu f (hP (Z.map (fun z => (z.1, z.2.2)))) ⟨6, k, v, od, hk9, ks, lo, hi⟩ th = if (hP (Z.map (fun z => (z.1, z.2.2))) hk9).isSome then errA 0 else errA 33 := by unfold tellP; rw [if_neg (by simp), if_neg (by simp), if_neg (by simp), if_pos rfl]
   rw [eT]
   rcases place_cases (Z.map (fun z => (z.1, z.2.1))) hk9 with hp | ⟨i, hp, hi2, hi3⟩
   ·rw [hP_none (placeI_neg hp)]
    exact (d_relnone h1 h2 hgl hk hl2 hp).mono (fun e W' hh => DDid.still h (DTold.plain rfl hh.1) hh.2 (doF_same (.inr (by decide))) (doP_same (.inr (.inl (by decide)))))
   ·have hi4 : i < Z.length := by simpa using hi2
    have hkz : Z[i].1 = hk9 := by simpa using hi3
    have e1 : (hP (Z.map (fun z => (z.1, z.2.2))) hk9).isSome = true := by
     rw [hP_isSome hR]
     exact ⟨(Z[i].1, Z[i].2.2), List.mem_map.2 ⟨_, List.getElem_mem hi4, rfl⟩, hkz⟩
    rw [if_pos e1]
    refine (d_reldrop h1 h2 hgl hk hl2 hp hi2).mono ?_
    rintro e W' ⟨e, ⟨v2, hm⟩, hc⟩
    refine ⟨DTold.plain rfl e, ?_, hc⟩
    have e2 : doF ⟨6, k, v, od, hk9, ks, lo, hi⟩ (errA 0) f = f := doF_same (.inl ⟨by simp, by simp, fun _ => rfl⟩)
    have e3 : doP ⟨6, k, v, od, hk9, ks, lo, hi⟩ (errA 0) f (hP (Z.map (fun z => (z.1, z.2.2)))) = hP ((Z.map (fun z => (z.1, z.2.2))).take i ++ (Z.map (fun z => (z.1, z.2.2))).drop (i + 1)) := by
     rw [hP_drop hR (by simpa using hi4) (k := hk9) (by simpa using hkz)]
     funext j
     unfold doP
     rw [if_neg (by rintro ⟨-, a, -⟩; exact absurd a (by simp)), if_pos ⟨rfl, rfl⟩]
    rw [e2, e3]
    refine ⟨l, _, RM6.drop h1 h2 h4 hm h5 hc, drop_rising hR i, fun z hz2 => ?_, rfl, by omega, by simp; omega⟩
    have hz3 : z ∈ Z.map (fun z => (z.1, z.2.2)) := by
     rcases List.mem_append.1 hz2 with hz2 | hz2
     ·exact List.mem_of_mem_take hz2
     ·exact List.mem_of_mem_drop hz2
    exact ⟨(hz z hz3).1, (hz z hz3).2.1, by have := (hz z hz3).2.2; omega⟩
  ·by_cases k10 : kd = 10
   ·subst k10
    have eT : tellP mu f (hP (Z.map (fun z => (z.1, z.2.2)))) ⟨10, k, v, od, hk9, ks, lo, hi⟩ th = errA 0 := by unfold tellP; rw [if_neg (by simp), if_neg (by simp), if_neg (by simp), if_neg (by simp), if_neg (by simp only; omega), if_neg (by simp), if_pos rfl]
    rw [eT]
    exact (d_collect h1 h2 hgl hk).mono (fun e W' hh => DDid.still h (DTold.plain rfl hh.1) hh.2 (doF_same (.inl ⟨by simp, by simp, fun _ => rfl⟩)) (doP_same (.inl ⟨by simp, by simp⟩)))
   ·have eT : tellP mu f (hP (Z.map (fun z => (z.1, z.2.2)))) ⟨kd, k, v, od, hk9, ks, lo, hi⟩ th = errA 160 := by unfold tellP; rw [if_neg k4, if_neg k123, if_neg k5, if_neg k6, if_neg (by simp only; omega), if_neg (by simp only; omega), if_neg k10]
    rw [eT]
    exact (d_none h1 h2 hgl hk (by omega) (by omega) (by omega) (by omega) (by omega) (by omega) (by omega) (by omega) (by omega) (by omega)).mono (fun e W' hh => DDid.still h (DTold.plain rfl hh.1) hh.2 (doF_same (.inr (by decide))) (doP_same (.inr (.inl (by decide)))))
theorem step_append_runR {P : Program} {ops : Array Oper} {o : Oper} {a : Act} {w : World} {K : Act → World → Prop} {Q : Exit → Act → World → Prop} {E : Prop}
    (hgd : o.guard = none) (s x : Operand) (t : TypeId) (ho : o.op = Op.call { callee := Callee.builtin Builtin.append, args := #[s, x], argTypes := #[t, t] }) (v y v' : Value) (w' : World) (hs : a.eval s = v) (hx : a.eval x = y)
    (hr : (Builtin.append_ #[t, t] o.type #[v, y]).run P w = .ok v' w') (h : K (a.put o.dst v') w') :
    if Region.wanted o (yielded ops a.tmps) = true then Oper.wp P o a w K Q else E := by
 have hw : Region.wanted o (yielded ops a.tmps) = true := by simp [Region.wanted, hgd]
 rw [if_pos hw]
 unfold Oper.wp execOp
 simp only [ho, resolve, invoke, builtin, Sem.run_bind, Sem.run_pure, Result.andThen_ok, List.map_toArray, List.map_cons, List.map_nil, hs, hx, hr]
 exact h
set_option maxRecDepth 100000 in
theorem r_bare {B : Ans} {pb : Option Addr} {cb : Nat} {E : Int} {W : World} (hB : PairsAt W pb B.l) (hl : B.l.length ≤ 17592186044416) :
    Calls Tryz.prog 44 #[.agg (ansC B pb cb), .int .i64 E] W fun e W' => e = .returned (.bool (decide (B = errA E))) ∧ Chg (fun _ => False) W W' := by
 obtain ⟨bb, hbb⟩ : ∃ bb, bb = decide (B = errA E) := ⟨_, rfl⟩
 rw [← hbb]
 unfold ansC
 obtain ⟨w0, hw0⟩ : ∃ w0, w0 = W.alloc (.cells #[.int .i64 B.e, .bool B.f, .int .u64 B.x, .bool B.d, .int .u64 B.h, .slice pb B.l.length cb, .int .u64 B.n] 39) := ⟨_, rfl⟩
 have C0 : Chg (fun _ => False) W w0 := by rw [hw0]; exact (Chg.refl _ _).alloc _
 have o0 : w0.heap[W.heap.size]? = some (.cells #[.int .i64 B.e, .bool B.f, .int .u64 B.x, .bool B.d, .int .u64 B.h, .slice pb B.l.length cb, .int .u64 B.n] 39 (0, 0)) := by rw [hw0]; exact heap_alloc_new _ _
 have HS := keepH (r_same B.e E B.f false B.d false B.x 0 B.h 0 B.n 0 pb none cb 0 B.l [] w0 (hB.chg C0) (.inl rfl) hl (by simp))
 rw [show decide ((⟨B.e, B.f, B.x, B.d, B.h, B.l, B.n⟩ : Ans) = ⟨E, false, 0, false, 0, [], 0⟩) = bb from hbb.symm] at HS
 have HC0 := keepH C0
 have c0 : w0.cell? ⟨W.heap.size, 0, none⟩ = some (.int .i64 B.e) := cell_of o0 0
 have c1 : w0.cell? ⟨W.heap.size, 1, none⟩ = some (.bool B.f) := cell_of o0 1
 have c2 : w0.cell? ⟨W.heap.size, 2, none⟩ = some (.int .u64 B.x) := cell_of o0 2
 have c3 : w0.cell? ⟨W.heap.size, 3, none⟩ = some (.bool B.d) := cell_of o0 3
 have c4 : w0.cell? ⟨W.heap.size, 4, none⟩ = some (.int .u64 B.h) := cell_of o0 4
 have c5 : w0.cell? ⟨W.heap.size, 5, none⟩ = some (.slice pb B.l.length cb) := cell_of o0 5
 have c6 : w0.cell? ⟨W.heap.size, 6, none⟩ = some (.int .u64 B.n) := cell_of o0 6
 clear C0 o0 hB hbb
 go_enter Tryz.func44, Tryz.ntmps44
 go_upto_region 1 with fail
 rw [← hw0]
 clear hw0
 go_wp2_with fail
 refine HS.out.mono ?_
 rintro e w1 ⟨rfl, C1⟩
 have HC1 := keepH (chgF HC0.out C1)
 clear C1
 go_wp2_with fail
 go_ret
 exact ⟨by first | rfl | simp, HC1.out⟩
theorem HsAt.quiet {W W' : World} {p : Option Addr} {hs : List (Nat × Value)} (h : HsAt W p hs) (c : Chg (fun _ => False) W W') : HsAt W' p hs := h.chgF c (fun _ _ _ x => x)
set_option maxRecDepth 100000 in
theorem r_fork {A : Nat → Prop} {W : World} {m mu n : Nat} {f : Nat → Option Nat} {pc : Nat → Option (Nat → Option Nat)} (h : RB A W m mu f pc n) (hn : n ≤ 3000000) (hA : ∀ b, A b → b < W.heap.size) :
    Calls Tryz.prog 9 #[.pointer (some ⟨m, 0, none⟩)] W fun e W' => e = .returned (.pointer (some ⟨W.heap.size, 0, none⟩)) ∧ RB A W' W.heap.size mu f pc n ∧ Chg (fun _ => False) W W' := by
 obtain ⟨mv, hv, Z, l, h1, h2, h4, h5, hR, hz, rfl, hgl, hlZ⟩ := h.begin
 obtain ⟨pm, cm, rfl, hPm, -⟩ := h2.row.slice
 obtain ⟨ph, ch, rfl, hPh, hch, hnone, -⟩ := h1.row.slice
 have hlm := lt_of h1.at_
 obtain ⟨W1, hW1⟩ : ∃ W1, W1 = W.alloc (.cells #[.int .i64 mu, .slice none 0 0, .slice none 0 0] 105) := ⟨_, rfl⟩
 have C1 : Chg (fun _ => False) W W1 := by rw [hW1]; exact (Chg.refl _ _).alloc _
 have B1 : W1.heap[W.heap.size]? = some (.cells #[.int .i64 mu, .slice none 0 0, .slice none 0 0] 105 (0, 0)) := by rw [hW1]; exact heap_alloc_new _ _
 have S1 : W1.heap.size = W.heap.size + 1 := by rw [hW1]; simp
 have sm : small64 l := h2.row.2
 obtain ⟨v1, w2, a1, R1, C2⟩ := app_pairs (W := W1.drew) (B := W1.heap.size) (PRow.nil _ _) (hPm.chg C1.drew) sm (fun e => by rcases hPm with q | ⟨b, o, e2, -⟩; exact q; rw [e] at e2; cases e2) (by simp only [List.length_nil]; omega) (Nat.le_refl _) cm 37
 rw [List.nil_append] at R1
 obtain ⟨p1, c1, rfl, hP1, -⟩ := R1.slice
 have C2' : Chg (fun _ => False) W1 w2 := (show Chg (fun _ => False) W1 W1.drew from (Chg.refl _ _).drew).trans C2 (fun _ _ x => x) (fun j hj e => by omega)
 have B2 : w2.heap[W.heap.size]? = some (.cells #[.int .i64 mu, .slice none 0 0, .slice none 0 0] 105 (0, 0)) := (C2'.block _ (by omega) (fun x => x)).trans B1
 obtain ⟨w3, hw3⟩ : ∃ w3, w3 = w2.setCell ⟨W.heap.size, 1, none⟩ (.slice p1 l.length c1) := ⟨_, rfl⟩
 have B3 : w3.heap[W.heap.size]? = some (.cells #[.int .i64 mu, .slice p1 l.length c1, .slice none 0 0] 105 (0, 0)) := by rw [hw3]; exact set_of B2 1 _
 have C3 : Chg (fun _ => False) W w3 := by
  rw [hw3]
  exact (chgF C1 C2').setCell (p := ⟨W.heap.size, 1, none⟩) (fun e => by simp at e) _
 have S3 : W.heap.size + 1 ≤ w3.heap.size := by have := C2'.size; rw [hw3]; simp [World.setCell]; omega
 have R3 : PRow w3 0 (.slice p1 l.length c1) l := by
  rw [hw3]
  exact ((⟨prow_zero R1, h2.ls⟩ : RL w2 (.slice p1 l.length c1) f l).chg (setP (p := W.heap.size) _) (fun b hb e => by have := (R1.lt b hb).1; omega)).row
 obtain ⟨v2, w4, a2, R4, C4⟩ := app_held (W := w3.drew) (B := w3.heap.size) (HRow.nil _ _) (hPh.quiet C3.drew) h1.row.2 (fun e => (hnone e).1) (by simp only [List.length_nil, List.length_map]; omega) (Nat.le_refl _) ch 103
 rw [List.nil_append] at R4
 obtain ⟨p4, c4, rfl, -⟩ := R4.slice
 have C4' : Chg (fun _ => False) w3 w4 := (show Chg (fun _ => False) w3 w3.drew from (Chg.refl _ _).drew).trans C4 (fun _ _ x => x) (fun j hj e => by omega)
 have B4 : w4.heap[W.heap.size]? = some (.cells #[.int .i64 mu, .slice p1 l.length c1, .slice none 0 0] 105 (0, 0)) := (C4'.block _ (by omega) (fun x => x)).trans B3
 obtain ⟨w5, hw5⟩ : ∃ w5, w5 = w4.setCell ⟨W.heap.size, 2, none⟩ (.slice p4 (Z.map (fun z => (z.1, z.2.1))).length c4) := ⟨_, rfl⟩
 have B5 : w5.heap[W.heap.size]? = some (.cells #[.int .i64 mu, .slice p1 l.length c1, .slice p4 (Z.map (fun z => (z.1, z.2.1))).length c4] 105 (0, 0)) := by rw [hw5]; exact set_of B4 2 _
 have C5 : Chg (fun _ => False) W w5 := by
  rw [hw5]
  exact (chgF C3 C4').setCell (p := ⟨W.heap.size, 2, none⟩) (fun e => by simp at e) _
 have K5 : Chg (fun k => k = W.heap.size) w3 w5 := by
  rw [hw5]
  exact (C4'.mono (fun _ _ x => x.elim) : Chg (fun k => k = W.heap.size) w3 w4).trans (setP _) (fun _ _ x => x) (fun _ _ x => x)
 have R5 : HRow w5 0 (.slice p4 (Z.map (fun z => (z.1, z.2.1))).length c4) (Z.map (fun z => (z.1, z.2.1))) := by
  rw [hw5]
  exact R4.zero.chg (setP (p := W.heap.size) _) (fun b hb e => by have := (R4.lt b hb).1; have : w3.drew.heap.size = w3.heap.size := rfl; omega)
 have HE : Hid (RB A w5 W.heap.size mu f (hP (Z.map (fun z => (z.1, z.2.2)))) n ∧ Chg (fun _ => False) W w5) := by
  refine ⟨⟨l, Z.map (fun z => (z.1, z.2.2)), ⟨.slice p1 l.length c1, .slice p4 (Z.map (fun z => (z.1, z.2.1))).length c4, Z, ⟨B5, R5⟩, ((⟨R3, h2.ls⟩ : RL w3 (.slice p1 l.length c1) f l).chg K5 (fun b hb e => ?_)), rfl, fun z hz => (h4 z hz).quiet C5, ?_, h5.2⟩, hR, hz, rfl, hgl, by simpa using hlZ⟩, C5⟩
  ·have := (R1.lt b hb).1
   omega
  ·intro b hb x
   have := (R1.lt b hb).1
   have := hA b x
   omega
 have d0 : W1.cell? ⟨m, 0, none⟩ = some (.int .i64 mu) := (h1.quiet C1).c0
 have d1 : W1.cell? ⟨m, 1, none⟩ = some (.slice pm l.length cm) := (h1.quiet C1).c1
 have c0 := h1.c0
 have e1 : W1.cell? ⟨W.heap.size, 1, none⟩ = some (.slice none 0 0) := cell_of B1 1
 have e2 : w2.frozen? ⟨W.heap.size, 1, none⟩ = false := free_of B2 1
 have e2' : w2.cell? ⟨W.heap.size, 1, none⟩ = some (.slice none 0 0) := cell_of B2 1
 have g1 : w3.cell? ⟨W.heap.size, 2, none⟩ = some (.slice none 0 0) := cell_of B3 2
 have g2 : w3.cell? ⟨m, 2, none⟩ = some (.slice ph (Z.map (fun z => (z.1, z.2.1))).length ch) := (h1.quiet C3).c2
 have g3 : w4.frozen? ⟨W.heap.size, 2, none⟩ = false := free_of B4 2
 have g3' : w4.cell? ⟨W.heap.size, 2, none⟩ = some (.slice none 0 0) := cell_of B4 2
 obtain ⟨nl, hnl⟩ : ∃ nl, nl = l.length := ⟨_, rfl⟩
 obtain ⟨nz, hnz⟩ : ∃ nz, nz = (Z.map (fun z => (z.1, z.2.1))).length := ⟨_, rfl⟩
 rw [← hnl] at d1 a1 hw3
 rw [← hnz] at g2 a2 hw5
 have HA1 := keepH a1
 have HA2 := keepH a2
 obtain ⟨Q, hQ⟩ : ∃ Q, Q = W.heap.size := ⟨_, rfl⟩
 rw [← hQ] at e1 e2 e2' g1 g3 g3' hw3 hw5 HE ⊢
 clear a1 a2 hnl hnz C1 B1 S1 C2 C2' B2 R1 B3 C3 S3 R3 R4 C4 C4' B4 B5 C5 K5 R5 hP1 hPm hPh hch hnone h1 h2 h4 h5 hR hz h hgl hlZ sm hlm hA
 go_enter Tryz.func9, Tryz.ntmps9
 go_upto_region 4 with fail
 rw [← hQ, ← hW1]
 have HW3 := keepH hw3
 have HW5 := keepH hw5
 clear hW1 c0 hQ hw3 hw5
 go_region_law (refine step_append_runR rfl (.tmp 16) (.tmp 20) 37 rfl _ _ _ _ rfl rfl HA1.out ?_)
 all_goals (
  go_upto_region 5 with fail
  rw [← HW3.out]
  go_region_law (refine step_append_runR rfl (.tmp 28) (.tmp 32) 103 rfl _ _ _ _ rfl rfl HA2.out ?_))
 all_goals (
  rw [← HW5.out]
  go_wp2_with fail
  go_ret
  exact ⟨by first | rfl | simp, HE.out⟩)
theorem RB.moved {A : Nat → Prop} {W W' : World} {m m2 mu n : Nat} {f : Nat → Option Nat} {pc : Nat → Option (Nat → Option Nat)} (h : RB A W m2 mu f pc n) {X : Array Value} (hm : W.heap[m]? = some (.cells X 105 (0, 0))) {Y : Array Value} (h2 : W.heap[m2]? = some (.cells Y 105 (0, 0))) (hm' : W'.heap[m]? = some (.cells Y 105 (0, 0))) (c : Chg (fun k => k = m) W W') : RB A W' m mu f pc n := by
 obtain ⟨l, H, ⟨mv, hv, Z, g1, g2, g3, g4, g5⟩, r⟩ := h.ex
 have e : Y = #[.int .i64 mu, mv, hv] := by
  have := g1.at_
  rw [h2] at this
  injection this with this
  injection this
 subst e
 have ap : ∀ {v : Value} {f : Nat → Option Nat} {l : List (Nat × Nat)}, RL W v f l → ∀ b, v.ownBlock = some b → ¬ b = m := fun hr b hb e => block_apart hr.row.1 hm (by decide) (by rw [← e]; exact hb)
 exact ⟨l, H, ⟨mv, hv, Z, ⟨hm', g1.row.chg c (fun b hb e => block_apart g1.row.1 hm (by decide) (by rw [← e]; exact hb))⟩, g2.chg c (ap g2), g3, fun z hz => (g4 z hz).chg c (ap (g4 z hz)), g5⟩, r⟩
theorem RB.cells {A : Nat → Prop} {W : World} {m mu n : Nat} {f : Nat → Option Nat} {pc : Nat → Option (Nat → Option Nat)} (h : RB A W m mu f pc n) : ∃ (pm ph : Option Addr) (nm cm nh ch : Nat), W.heap[m]? = some (.cells #[.int .i64 mu, .slice pm nm cm, .slice ph nh ch] 105 (0, 0)) := by
 obtain ⟨l, H, ⟨mv, hv, Z, g1, g2, g3, g4, g5⟩, r⟩ := h.ex
 obtain ⟨pm, cm, rfl, -, -⟩ := g2.row.slice
 obtain ⟨ph, ch, rfl, -⟩ := g1.row.slice
 exact ⟨_, _, _, _, _, _, g1.at_⟩
end Go.Proofs.YtahgaghokpicgaaGreat
