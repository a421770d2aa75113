/- ModelHeld: the whole walk. -/
import Derived.Test.YtgddedoinhgocaaNr
import Derived.Test.YtgddedoinhgocaaNq
namespace Go.Proofs.Ytgddedoinhgocaa
open Go.RowKit Go.Maps
set_option linter.unusedVariables false

theorem calls_at {H : Type} {enc : TypeId × Value → H} {W : World} {sp : Nat → Bool} {held : Bool} {p : Option Addr} {n c : Nat} {d : DataW H} {ps : List MemPlace} (h : DataW.Trod enc Try.prog W 0 sp held 22 (.slice p n c) d ps) : ∃ l : List CallI, l.length = n ∧ CallsAt W p l := by
  obtain ⟨fuel, hf⟩ := h
  obtain ⟨p', c', l, hcs, hL⟩ := calls_open hf
  simp [Value.cells] at hcs
  obtain ⟨rfl, rfl, rfl⟩ := hcs
  exact ⟨l, rfl, hL⟩
theorem CallsAt.get {W wr : World} {p : Option Addr} {l : List CallI} (h : CallsAt W p l) (c : Chg (fun _ => False) W wr) {i : Nat} {y : CallI} (hy : l[i]? = some y) : ∃ bk off, p = some ⟨bk, off, none⟩ ∧ bk < W.heap.size ∧ y.Ok W ∧ ∀ j v, y.cs[j]? = some v → wr.cell? ⟨bk, off + i * 20 + j, none⟩ = some v := by
  rcases h with rfl | ⟨bk, off, rfl, hb, h⟩
  · simp at hy
  · obtain ⟨h1, h2⟩ := h i y hy
    exact ⟨bk, off, rfl, hb, h1, fun j v hj => cell_chg c (h2 j v hj) (fun x => x)⟩
/-- One model, and all that lay ahead of it. -/
structure M1 (W wr : World) (m nw hd : Nat) (f h : Nat → Option Nat) (g : Nat → Nat → Option Nat) (n : Nat) : Prop where
  mo : MoAt wr m nw hd 3 f h g n
  ge : W.heap.size ≤ m ∧ W.heap.size ≤ nw ∧ W.heap.size ≤ hd
  chg : Chg (fun _ => False) W wr
theorem M1.quiet {W wr wx : World} {m nw hd : Nat} {f h : Nat → Option Nat} {g : Nat → Nat → Option Nat} {n : Nat} (H : M1 W wr m nw hd f h g n) (c : Chg (fun _ => False) wr wx) : M1 W wx m nw hd f h g n :=
  ⟨H.mo.quiet c, H.ge, H.chg.trans c (fun _ _ x => x) (fun _ _ x => x)⟩
theorem M1.step {W wr wx : World} {m nw hd : Nat} {f h f' h' : Nat → Option Nat} {g g' : Nat → Nat → Option Nat} {n n' : Nat} (H : M1 W wr m nw hd f h g n) (hm : MoAt wx m nw hd 3 f' h' g' n') (c : Chg (fun i => i = nw ∨ i = hd) wr wx) : M1 W wx m nw hd f' h' g' n' :=
  ⟨hm, H.ge, H.chg.trans c (fun _ _ x => x) (fun i hi e => by have := H.ge; omega)⟩
/-- A Do behind which nothing of the answer is asked for. -/
theorem M1.call {W wr : World} {m nw hd : Nat} {f h : Nat → Option Nat} {g : Nat → Nat → Option Nat} {n : Nat} (H : M1 W wr m nw hd f h g n) {y : CallI} (hy : y.Ok W) {w : World} (hw : Chg (fun _ => False) wr w) (hn : n ≤ 8796093022000) :
    Calls Try.prog 8 #[.pointer (some ⟨m, 0, none⟩), .agg #[.int .u8 y.x.o.kd, .int .u64 (y.x.o.k : Int), .int .u64 (y.x.o.v : Int), .int .u64 (y.x.o.od : Int), .int .u64 (y.x.o.hk : Int), .bool y.x.r5, .int .i64 y.x.r6, .int .i64 y.x.r7, .slice y.x.kp y.x.o.ks.length y.x.kc, .int .u64 (y.x.o.lo : Int), .int .u64 (y.x.o.hi : Int)], .int .u64 (y.hn : Int)] w fun e w' => (∃ u, e = .returned (.agg u)) ∧ (∃ cl, w.heap.size ≤ cl ∧ M1 W w' m nw hd (doF y.x.o (tellP 3 f (pcs h g) y.x.o y.hn) f) (doH y.x.o (tellP 3 f (pcs h g) y.x.o y.hn) cl h) (setG g cl f) (n + 1)) ∧ Chg (fun i => i = nw ∨ i = hd) w w' := by
  have H' := H.quiet hw
  refine (Do_all hy.x.ok hy.hn H'.mo (by omega) hn (hy.x.ks.chg H'.chg (fun _ _ _ x => x)) rfl).mono ?_
  rintro e w' ⟨⟨p, c, rfl, _⟩, ⟨cl, hcl, hM⟩, hc⟩
  exact ⟨⟨_, rfl⟩, ⟨cl, hcl, H'.step hM hc⟩, hc⟩
/-- What a handle holds stays, whatever is done but its Release. -/
theorem held_stays {o : OpP} {f h : Nat → Option Nat} {g : Nat → Nat → Option Nat} {th cl hdl b sz : Nat} (hb : h hdl = some b) (hlt : b < sz) (hcl : sz ≤ cl) (hr : ¬ (o.kd = 6 ∧ o.hk = hdl)) :
    doH o (tellP 3 f (pcs h g) o th) cl h hdl = some b ∧ setG g cl f b = g b := by
  refine ⟨?_, setG_other _ _ (by omega)⟩
  unfold doH
  split
  · rename_i q
    obtain ⟨q1, q2, q3⟩ := q
    have e : tellP 3 f (pcs h g) o th = if (pcs h g th).isSome then errA 32 else ⟨0, false, 0, false, th, [], 0⟩ := by
      unfold tellP
      rw [if_neg (by omega), if_neg (by omega), if_pos q2]
    by_cases z : hdl = (tellP 3 f (pcs h g) o th).h
    · exfalso
      rw [e] at z q1
      by_cases y : (pcs h g th).isSome = true
      · rw [if_pos y] at q1
        simp [errA] at q1
      · rw [if_neg y] at z
        simp only at z
        subst z
        simp [pcs, hb] at y
    · rw [updO_other _ _ z]; exact hb
  · split
    · rename_i q
      rw [updO_other _ _ (fun z => hr ⟨q.2, z.symm⟩)]
      exact hb
    · exact hb
set_option maxRecDepth 100000 in
set_option maxHeartbeats 8000000 in
theorem held_walk (p p2 : Option Addr) (c c2 hdl : Nat) (l more : List CallI) (W : World) (hO : CallsAt W p l) (hO2 : CallsAt W p2 more) (hl : l.length ≤ 2000000000000) (hl2 : more.length ≤ 2000000000000) (hh64 : hdl < 18446744073709551616) :
    Calls Try.prog 4 #[.slice p l.length c, .int .u64 (hdl : Int), .slice p2 more.length c2] W fun e W' => e = .returned (.bool true) ∧ Chg (fun _ => False) W W' := by
  have HO := keepH hO
  have HO2 := keepH hO2
  clear hO hO2
  go_enter Try.func4, Try.ntmps4
  go_wp2_with fail
  refine (live_06 W).mono ?_
  rintro e w1 ⟨rfl, C1⟩
  have HC1 := keepH C1
  clear C1
  go_wp2_with fail
  refine (new_g 3 (by omega) (by omega) w1).mono ?_
  rintro e w2 ⟨rfl, M2, C2⟩
  obtain ⟨m, hm⟩ : ∃ m, m = w1.heap.size + 2 := ⟨_, rfl⟩
  obtain ⟨hd, hhd⟩ : ∃ hd, hd = w1.heap.size + 1 := ⟨_, rfl⟩
  obtain ⟨nw, hnw⟩ : ∃ nw, nw = w1.heap.size := ⟨_, rfl⟩
  have HM : Hid (∃ f h g, M1 W w2 m nw hd f h g 0) := by
    rw [← hm, ← hhd, ← hnw] at M2
    have z := HC1.out.size
    exact ⟨_, _, _, M2, by omega, HC1.out.trans C2 (fun _ _ x => x) (fun _ _ x => x)⟩
  rw [← hm]
  clear M2 C2 HC1 hm hhd hnw
  go_wp2_with fail
  go_loopw [9] (fun s wr => ∃ i : Nat, i ≤ l.length ∧ s = .int .i64 (i : Int) ∧ Hid (∃ f h g, M1 W wr m nw hd f h g i)) (fun s _ => l.length - natOf s)
  case atStart => exact ⟨0, Nat.zero_le _, rfl, HM⟩
  case round =>
    obtain ⟨i, hil, rfl, HX⟩ := hrel
    by_cases hlt : i < l.length
    · have q1 : (i : Int) < (l.length : Int) := by omega
      obtain ⟨y, hy⟩ : ∃ y, l[i]? = some y := ⟨l[i], List.getElem?_eq_getElem hlt⟩
      obtain ⟨f, h, g, HM1⟩ := HX.out
      have HMM := keepH HM1
      obtain ⟨bk, off, rfl, hbk, hok, hcs⟩ := HO.out.get HM1.chg hy
      have HK := keepH hok
      have c0 := hcs 1 _ (hok.op 0 _ rfl)
      have c1 := hcs 2 _ (hok.op 1 _ rfl)
      have c2' := hcs 3 _ (hok.op 2 _ rfl)
      have c3 := hcs 4 _ (hok.op 3 _ rfl)
      have c4 := hcs 5 _ (hok.op 4 _ rfl)
      have c5 := hcs 6 _ (hok.op 5 _ rfl)
      have c6 := hcs 7 _ (hok.op 6 _ rfl)
      have c7 := hcs 8 _ (hok.op 7 _ rfl)
      have c8 := hcs 9 _ (hok.op 8 _ rfl)
      have c9 := hcs 10 _ (hok.op 9 _ rfl)
      have c10 := hcs 11 _ (hok.op 10 _ rfl)
      have c19 := hcs 19 _ hok.hd
      have HS : ∀ w', Chg (fun i => i = nw ∨ i = hd) wr w' → Hid (w'.cell? ⟨bk, off + i * 20 + 1, none⟩ = some (.int .u8 y.x.o.kd) ∧ w'.cell? ⟨bk, off + i * 20 + 1 + 1, none⟩ = some (.int .u64 (y.x.o.k : Int)) ∧ w'.cell? ⟨bk, off + i * 20 + 1 + 2, none⟩ = some (.int .u64 (y.x.o.v : Int)) ∧ w'.cell? ⟨bk, off + i * 20 + 1 + 3, none⟩ = some (.int .u64 (y.x.o.od : Int)) ∧ w'.cell? ⟨bk, off + i * 20 + 1 + 4, none⟩ = some (.int .u64 (y.x.o.hk : Int)) ∧ w'.cell? ⟨bk, off + i * 20 + 1 + 5, none⟩ = some (.bool y.x.r5) ∧ w'.cell? ⟨bk, off + i * 20 + 1 + 6, none⟩ = some (.int .i64 y.x.r6) ∧ w'.cell? ⟨bk, off + i * 20 + 1 + 7, none⟩ = some (.int .i64 y.x.r7) ∧ w'.cell? ⟨bk, off + i * 20 + 1 + 8, none⟩ = some (.slice y.x.kp y.x.o.ks.length y.x.kc) ∧ w'.cell? ⟨bk, off + i * 20 + 1 + 9, none⟩ = some (.int .u64 (y.x.o.lo : Int)) ∧ w'.cell? ⟨bk, off + i * 20 + 1 + 10, none⟩ = some (.int .u64 (y.x.o.hi : Int)) ∧ w'.cell? ⟨bk, off + i * 20 + 19, none⟩ = some (.int .u64 (y.hn : Int))) := fun w' cw => by
        have z := HM1.ge
        have nb : ¬ (bk = nw ∨ bk = hd) := by omega
        exact ⟨cell_chg cw c0 nb, cell_chg cw c1 nb, cell_chg cw c2' nb, cell_chg cw c3 nb, cell_chg cw c4 nb, cell_chg cw c5 nb, cell_chg cw c6 nb, cell_chg cw c7 nb, cell_chg cw c8 nb, cell_chg cw c9 nb, cell_chg cw c10 nb, cell_chg cw c19 nb⟩
      have HD : ∀ w, Chg (fun _ => False) wr w → Hid _ := fun w cw => keepH (HMM.out.call HK.out cw (by omega))
      have CR : Chg (fun i => i = nw ∨ i = hd) wr wr := Chg.refl _ _
      have CRd : Chg (fun _ => False) wr wr.drew := (Chg.refl (fun _ => False) wr).drew
      have CR2 : Chg (fun i => i = nw ∨ i = hd) wr wr.drew := CR.drew
      clear HM1 hy hcs hok hbk
      clear c0 c1 c2' c3 c4 c5 c6 c7 c8 c9 c10 c19
      go_wp2_with fail
      go_region_held3 (fun w' => w'.cell? ⟨bk, off + i * 20 + 1, none⟩ = some (.int .u8 y.x.o.kd) ∧ w'.cell? ⟨bk, off + i * 20 + 1 + 1, none⟩ = some (.int .u64 (y.x.o.k : Int)) ∧ w'.cell? ⟨bk, off + i * 20 + 1 + 2, none⟩ = some (.int .u64 (y.x.o.v : Int)) ∧ w'.cell? ⟨bk, off + i * 20 + 1 + 3, none⟩ = some (.int .u64 (y.x.o.od : Int)) ∧ w'.cell? ⟨bk, off + i * 20 + 1 + 4, none⟩ = some (.int .u64 (y.x.o.hk : Int)) ∧ w'.cell? ⟨bk, off + i * 20 + 1 + 5, none⟩ = some (.bool y.x.r5) ∧ w'.cell? ⟨bk, off + i * 20 + 1 + 6, none⟩ = some (.int .i64 y.x.r6) ∧ w'.cell? ⟨bk, off + i * 20 + 1 + 7, none⟩ = some (.int .i64 y.x.r7) ∧ w'.cell? ⟨bk, off + i * 20 + 1 + 8, none⟩ = some (.slice y.x.kp y.x.o.ks.length y.x.kc) ∧ w'.cell? ⟨bk, off + i * 20 + 1 + 9, none⟩ = some (.int .u64 (y.x.o.lo : Int)) ∧ w'.cell? ⟨bk, off + i * 20 + 1 + 10, none⟩ = some (.int .u64 (y.x.o.hi : Int)) ∧ w'.cell? ⟨bk, off + i * 20 + 19, none⟩ = some (.int .u64 (y.hn : Int))) (first | exact (HS _ (by assumption)).out)
        (first | (go_at_call 8; refine (HD _ (by assumption)).out.mono ?_; rintro e w4 ⟨⟨u, rfl⟩, ⟨cl, hcl, hM4⟩, hC4⟩; have hC5 : Chg (fun i => i = nw ∨ i = hd) wr w4 := CR2.trans hC4 (fun _ _ x => x) (fun _ _ x => x)))
      all_goals (
        have HM4 := keepH hM4
        clear hM4 hcl
        go_wp2_with fail
        go_roundw
        case rel => exact ⟨i + 1, by omega, by first | rfl | go_num, ⟨_, _, _, HM4.out⟩⟩
        case measure => exact meas hlt)
    · have q1 : ¬ (i : Int) < (l.length : Int) := by omega
      obtain rfl : i = l.length := by omega
      clear hlt
      obtain ⟨f, h, g, HM1⟩ := HX.out
      have HMM := keepH HM1
      clear HM1
      cases hh : h hdl with
      | some b =>
        have HHS := keepH (m_heldS HMM.out.mo (by omega) hh64 hh)
        have HCC := keepH HMM.out.chg
        clear hh
        go_wp2_with fail
        refine HHS.out.mono ?_
        rintro e w4 ⟨⟨p4, c4, l4, rfl, _, _, _⟩, C4⟩
        have HC4 : Hid (Chg (fun _ => False) W w4) := HCC.out.trans C4 (fun _ _ x => x) (fun _ _ x => x)
        clear C4
        by_cases h0 : hdl = 0
        · have z0 : ((hdl : Int) == 0) = true := by simp [h0]
          clear h0
          go_wp2_with fail
          go_ret
          exact ⟨by simp, HC4.out⟩
        · have z0 : ((hdl : Int) == 0) = false := by simp; omega
          clear h0
          go_wp2_with fail
          go_ret
          exact ⟨by simp, HC4.out⟩
      | none =>
        have HHS := keepH (m_heldN HMM.out.mo hh64 hh)
        have HH := keepH hh
        clear hh
        go_wp2_with fail
        refine HHS.out.mono ?_
        rintro e w4 ⟨rfl, rfl⟩
        by_cases h0 : hdl = 0
        · have z0 : ((hdl : Int) == 0) = true := by simp [h0]
          clear h0
          go_wp2_with fail
          go_ret
          exact ⟨by simp, HMM.out.chg⟩
        · have z0 : ((hdl : Int) == 0) = false := by simp; omega
          have HH0 := keepH h0
          clear h0
          go_wp2_with fail
          refine (m_content HMM.out.mo (by omega)).mono ?_
          rintro e w5 ⟨⟨pc, cc, lc, rfl, hL, hP, hPB, hLn⟩, C5⟩
          have HM5 := keepH (HMM.out.quiet C5)
          have HL : Hid (Lists f 0 18446744073709551615 lc ∧ lc.length ≤ 8796093022000) := ⟨hL, by omega⟩
          have HP5 : Hid (PairsAt w5 pc lc ∧ ∀ bk off, pc = some ⟨bk, off, none⟩ → ¬ (bk = nw ∨ bk = hd)) := ⟨hP, fun bk off e => by
            have z1 := hPB bk off e
            have z2 := HMM.out.mo.blk
            omega⟩
          clear hL hP hPB hLn C5
          have HD5 := keepH (Do_all (o := ⟨5, 0, 0, 0, 0, [], 0, 0⟩) (r5 := false) (r6 := 0) (r7 := 0) (kp := none) (kc := 0) ⟨by decide, by decide, by decide, by decide, by decide, by decide⟩ hh64 HM5.out.mo (by omega) (by omega) (.inl rfl) (A := ⟨0, false, 0, false, hdl, [], 0⟩) (by
            unfold tellP
            rw [if_neg (by simp), if_neg (by simp), if_pos rfl, if_neg (by simp [pcs, HH.out])]))
          go_wp2_with fail
          refine HD5.out.mono ?_
          rintro e w6 ⟨⟨p6, c6, rfl, _, _, _⟩, ⟨cl, hcl, hM6⟩, C6⟩
          unfold ansC
          have eF : doF ⟨5, 0, 0, 0, 0, [], 0, 0⟩ ⟨0, false, 0, false, hdl, [], 0⟩ f = f := by
            unfold doF
            rw [if_neg (by simp), if_neg (by simp)]
          have eH : doH ⟨5, 0, 0, 0, 0, [], 0, 0⟩ ⟨0, false, 0, false, hdl, [], 0⟩ cl h = updO h hdl (some cl) := by
            unfold doH
            rw [if_pos ⟨rfl, rfl, HH0.out⟩]
          rw [eF, eH] at hM6
          have HM6 := keepH (HM5.out.step hM6 C6)
          have HP6 := keepH (HP5.out.1.chgF C6 HP5.out.2)
          clear hM6 C6 hcl eF eH
          obtain ⟨w7, hw7⟩ : ∃ w7, w7 = w6.alloc (.cells #[.int .i64 0, .bool false, .int .u64 0, .bool false, .int .u64 (hdl : Int), .slice p6 0 c6, .int .u64 0] 40) := ⟨_, rfl⟩
          have C7 : Chg (fun _ => False) w6 w7 := by rw [hw7]; exact (Chg.refl _ _).alloc _
          have t4 : w7.cell? ⟨w6.heap.size, 4, none⟩ = some (.int .u64 (hdl : Int)) := by rw [hw7]; exact cell_of (heap_alloc_new _ _) 4
          have HI : Hid (∃ f h g, M1 W w7 m nw hd f h g (l.length + 1) ∧ (∃ b, h hdl = some b ∧ Lists (g b) 0 18446744073709551615 lc) ∧ PairsAt w7 pc lc) := ⟨_, _, _, HM6.out.quiet C7, ⟨cl, updO_same _ _ _, by rw [setG_same]; exact HL.out.1⟩, HP6.out.chg C7⟩
          have HPN : Hid (∀ bk off, pc = some ⟨bk, off, none⟩ → ¬ (bk = nw ∨ bk = hd)) := HP5.out.2
          have HLL : Hid (lc.length ≤ 8796093022000) := HL.out.2
          clear C7 HM6 HP6 HM5 HP5 HL HD5 HHS HH HMM
          go_upto_region 13 with fail
          rw [← hw7]
          clear hw7
          go_wp2_with fail
          go_loopw [14] (fun s wr => ∃ i : Nat, i ≤ more.length ∧ s = .int .i64 (i : Int) ∧ Hid (∃ f h g, M1 W wr m nw hd f h g (l.length + 1 + i) ∧ (∃ b, h hdl = some b ∧ Lists (g b) 0 18446744073709551615 lc) ∧ PairsAt wr pc lc)) (fun s _ => more.length - natOf s)
          case atStart => exact ⟨0, Nat.zero_le _, rfl, HI⟩
          case round =>
            obtain ⟨i, hil, rfl, HX⟩ := hrel
            by_cases hlt : i < more.length
            · have q1 : (i : Int) < (more.length : Int) := by omega
              obtain ⟨y, hy⟩ : ∃ y, more[i]? = some y := ⟨more[i], List.getElem?_eq_getElem hlt⟩
              obtain ⟨f, h, g, HM1, hbx, hPx⟩ := HX.out
              have HMM := keepH HM1
              have HBX := keepH hbx
              have HPX := keepH hPx
              obtain ⟨bk, off, rfl, hbk, hok, hcs⟩ := HO2.out.get HM1.chg hy
              have HK := keepH hok
              have c0 := hcs 1 _ (hok.op 0 _ rfl)
              have c1 := hcs 2 _ (hok.op 1 _ rfl)
              have c2q := hcs 3 _ (hok.op 2 _ rfl)
              have c3 := hcs 4 _ (hok.op 3 _ rfl)
              have c4 := hcs 5 _ (hok.op 4 _ rfl)
              have c5 := hcs 6 _ (hok.op 5 _ rfl)
              have c6 := hcs 7 _ (hok.op 6 _ rfl)
              have c7 := hcs 8 _ (hok.op 7 _ rfl)
              have c8 := hcs 9 _ (hok.op 8 _ rfl)
              have c9 := hcs 10 _ (hok.op 9 _ rfl)
              have c10 := hcs 11 _ (hok.op 10 _ rfl)
              have c19 := hcs 19 _ hok.hd
              have HS : ∀ w', Chg (fun i => i = nw ∨ i = hd) wr w' → Hid (w'.cell? ⟨bk, off + i * 20 + 1, none⟩ = some (.int .u8 y.x.o.kd) ∧ w'.cell? ⟨bk, off + i * 20 + 1 + 1, none⟩ = some (.int .u64 (y.x.o.k : Int)) ∧ w'.cell? ⟨bk, off + i * 20 + 1 + 2, none⟩ = some (.int .u64 (y.x.o.v : Int)) ∧ w'.cell? ⟨bk, off + i * 20 + 1 + 3, none⟩ = some (.int .u64 (y.x.o.od : Int)) ∧ w'.cell? ⟨bk, off + i * 20 + 1 + 4, none⟩ = some (.int .u64 (y.x.o.hk : Int)) ∧ w'.cell? ⟨bk, off + i * 20 + 1 + 5, none⟩ = some (.bool y.x.r5) ∧ w'.cell? ⟨bk, off + i * 20 + 1 + 6, none⟩ = some (.int .i64 y.x.r6) ∧ w'.cell? ⟨bk, off + i * 20 + 1 + 7, none⟩ = some (.int .i64 y.x.r7) ∧ w'.cell? ⟨bk, off + i * 20 + 1 + 8, none⟩ = some (.slice y.x.kp y.x.o.ks.length y.x.kc) ∧ w'.cell? ⟨bk, off + i * 20 + 1 + 9, none⟩ = some (.int .u64 (y.x.o.lo : Int)) ∧ w'.cell? ⟨bk, off + i * 20 + 1 + 10, none⟩ = some (.int .u64 (y.x.o.hi : Int)) ∧ w'.cell? ⟨bk, off + i * 20 + 19, none⟩ = some (.int .u64 (y.hn : Int))) := fun w' cw => by
                have z := HM1.ge
                have nb : ¬ (bk = nw ∨ bk = hd) := by omega
                exact ⟨cell_chg cw c0 nb, cell_chg cw c1 nb, cell_chg cw c2q nb, cell_chg cw c3 nb, cell_chg cw c4 nb, cell_chg cw c5 nb, cell_chg cw c6 nb, cell_chg cw c7 nb, cell_chg cw c8 nb, cell_chg cw c9 nb, cell_chg cw c10 nb, cell_chg cw c19 nb⟩
              have HD : ∀ w, Chg (fun _ => False) wr w → Hid _ := fun w cw => keepH (HMM.out.call HK.out cw (by omega))
              have CR : Chg (fun i => i = nw ∨ i = hd) wr wr := Chg.refl _ _
              have CRd : Chg (fun _ => False) wr wr.drew := (Chg.refl (fun _ => False) wr).drew
              have CR2 : Chg (fun i => i = nw ∨ i = hd) wr wr.drew := CR.drew
              have k4 : wr.cell? ⟨bk, off + i * 20 + 1 + 4, none⟩ = some (.int .u64 (y.x.o.hk : Int)) := c4
              clear HM1 hbx hPx hy hcs hok hbk c1 c2q c3 c4 c5 c6 c7 c8 c9 c10 c19
              by_cases t1 : y.x.o.kd = 6
              · have z1 : (y.x.o.kd == 6) = true := by simpa using t1
                by_cases t2 : y.x.o.hk = hdl
                · have z2 : ((y.x.o.hk : Int) == (hdl : Int)) = true := by simp [t2]
                  clear t1 t2
                  go_wp2_with fail
                  go_roundw
                  case rel => exact ⟨i + 1, by omega, by first | rfl | go_num, ⟨_, _, _, ⟨HMM.out.mo.mono (by omega), HMM.out.ge, HMM.out.chg⟩, HBX.out, HPX.out⟩⟩
                  case measure => exact meas hlt
                · have z2 : ((y.x.o.hk : Int) == (hdl : Int)) = false := by simp; omega
                  have HR : Hid (¬ (y.x.o.kd = 6 ∧ y.x.o.hk = hdl)) := fun x => t2 x.2
                  clear t1 t2
                  go_upto_region 19 with fail
                  clear c0 k4
                  go_region_held3 (fun w' => w'.cell? ⟨bk, off + i * 20 + 1, none⟩ = some (.int .u8 y.x.o.kd) ∧ w'.cell? ⟨bk, off + i * 20 + 1 + 1, none⟩ = some (.int .u64 (y.x.o.k : Int)) ∧ w'.cell? ⟨bk, off + i * 20 + 1 + 2, none⟩ = some (.int .u64 (y.x.o.v : Int)) ∧ w'.cell? ⟨bk, off + i * 20 + 1 + 3, none⟩ = some (.int .u64 (y.x.o.od : Int)) ∧ w'.cell? ⟨bk, off + i * 20 + 1 + 4, none⟩ = some (.int .u64 (y.x.o.hk : Int)) ∧ w'.cell? ⟨bk, off + i * 20 + 1 + 5, none⟩ = some (.bool y.x.r5) ∧ w'.cell? ⟨bk, off + i * 20 + 1 + 6, none⟩ = some (.int .i64 y.x.r6) ∧ w'.cell? ⟨bk, off + i * 20 + 1 + 7, none⟩ = some (.int .i64 y.x.r7) ∧ w'.cell? ⟨bk, off + i * 20 + 1 + 8, none⟩ = some (.slice y.x.kp y.x.o.ks.length y.x.kc) ∧ w'.cell? ⟨bk, off + i * 20 + 1 + 9, none⟩ = some (.int .u64 (y.x.o.lo : Int)) ∧ w'.cell? ⟨bk, off + i * 20 + 1 + 10, none⟩ = some (.int .u64 (y.x.o.hi : Int)) ∧ w'.cell? ⟨bk, off + i * 20 + 19, none⟩ = some (.int .u64 (y.hn : Int))) (first | exact (HS _ (by assumption)).out)
                    (first | (go_at_call 8; refine (HD _ (by assumption)).out.mono ?_; rintro e w4 ⟨⟨u, rfl⟩, ⟨cl, hcl, hM4⟩, hC4⟩; have hC5 : Chg (fun i => i = nw ∨ i = hd) wr w4 := CR2.trans hC4 (fun _ _ x => x) (fun _ _ x => x)))
                  all_goals (
                    obtain ⟨b, hb, hLb⟩ := HBX.out
                    have st := held_stays (th := y.hn) (f := f) (g := g) hb (HMM.out.mo.blk.2.2.2 _ _ hb) (show wr.heap.size ≤ cl from hcl) HR.out
                    have HB4 : Hid (∃ b, doH y.x.o (tellP 3 f (pcs h g) y.x.o y.hn) cl h hdl = some b ∧ Lists (setG g cl f b) 0 18446744073709551615 lc) := ⟨b, st.1, by rw [st.2]; exact hLb⟩
                    have HM4 := keepH hM4
                    have HP4 := keepH (HPX.out.chgF hC5 HPN.out)
                    clear hM4 hcl hC4 hC5 hb hLb st
                    go_wp2_with fail
                    obtain ⟨b', hb', hLb'⟩ := HB4.out
                    refine (m_heldS HM4.out.mo (by omega) hh64 hb').mono ?_
                    rintro e w5 ⟨⟨p5, c5, l5, rfl, hL5, hP5, hn5⟩, C5⟩
                    obtain rfl := hL5.unique hLb'
                    have HM5 := keepH (HM4.out.quiet C5)
                    have HP5 := keepH (HP4.out.chg C5)
                    have HR5 := keepH (r_pairs p5 pc c5 cc l5 l5 w5 hP5 HP5.out (Nat.le_trans HLL.out (by omega)) (Nat.le_trans HLL.out (by omega)))
                    clear hL5 hP5 hn5 C5 hb' hLb'
                    go_wp2_with fail
                    refine HR5.out.mono ?_
                    rintro e w6 ⟨rfl, C6⟩
                    have HM6 := keepH (HM5.out.quiet C6)
                    have HP6 := keepH (HP5.out.chg C6)
                    clear C6
                    go_wp2_with fail
                    go_roundw
                    case rel => exact ⟨i + 1, by omega, by first | rfl | go_num, ⟨_, _, _, HM6.out, HB4.out, HP6.out⟩⟩
                    case measure => exact meas hlt)
              · have z1 : (y.x.o.kd == 6) = false := by simpa using t1
                have HR : Hid (¬ (y.x.o.kd = 6 ∧ y.x.o.hk = hdl)) := fun x => t1 x.1
                clear t1
                go_upto_region 19 with fail
                clear c0 k4
                go_region_held3 (fun w' => w'.cell? ⟨bk, off + i * 20 + 1, none⟩ = some (.int .u8 y.x.o.kd) ∧ w'.cell? ⟨bk, off + i * 20 + 1 + 1, none⟩ = some (.int .u64 (y.x.o.k : Int)) ∧ w'.cell? ⟨bk, off + i * 20 + 1 + 2, none⟩ = some (.int .u64 (y.x.o.v : Int)) ∧ w'.cell? ⟨bk, off + i * 20 + 1 + 3, none⟩ = some (.int .u64 (y.x.o.od : Int)) ∧ w'.cell? ⟨bk, off + i * 20 + 1 + 4, none⟩ = some (.int .u64 (y.x.o.hk : Int)) ∧ w'.cell? ⟨bk, off + i * 20 + 1 + 5, none⟩ = some (.bool y.x.r5) ∧ w'.cell? ⟨bk, off + i * 20 + 1 + 6, none⟩ = some (.int .i64 y.x.r6) ∧ w'.cell? ⟨bk, off + i * 20 + 1 + 7, none⟩ = some (.int .i64 y.x.r7) ∧ w'.cell? ⟨bk, off + i * 20 + 1 + 8, none⟩ = some (.slice y.x.kp y.x.o.ks.length y.x.kc) ∧ w'.cell? ⟨bk, off + i * 20 + 1 + 9, none⟩ = some (.int .u64 (y.x.o.lo : Int)) ∧ w'.cell? ⟨bk, off + i * 20 + 1 + 10, none⟩ = some (.int .u64 (y.x.o.hi : Int)) ∧ w'.cell? ⟨bk, off + i * 20 + 19, none⟩ = some (.int .u64 (y.hn : Int))) (first | exact (HS _ (by assumption)).out)
                  (first | (go_at_call 8; refine (HD _ (by assumption)).out.mono ?_; rintro e w4 ⟨⟨u, rfl⟩, ⟨cl, hcl, hM4⟩, hC4⟩; have hC5 : Chg (fun i => i = nw ∨ i = hd) wr w4 := CR2.trans hC4 (fun _ _ x => x) (fun _ _ x => x)))
                all_goals (
                  obtain ⟨b, hb, hLb⟩ := HBX.out
                  have st := held_stays (th := y.hn) (f := f) (g := g) hb (HMM.out.mo.blk.2.2.2 _ _ hb) (show wr.heap.size ≤ cl from hcl) HR.out
                  have HB4 : Hid (∃ b, doH y.x.o (tellP 3 f (pcs h g) y.x.o y.hn) cl h hdl = some b ∧ Lists (setG g cl f b) 0 18446744073709551615 lc) := ⟨b, st.1, by rw [st.2]; exact hLb⟩
                  have HM4 := keepH hM4
                  have HP4 := keepH (HPX.out.chgF hC5 HPN.out)
                  clear hM4 hcl hC4 hC5 hb hLb st
                  go_wp2_with fail
                  obtain ⟨b', hb', hLb'⟩ := HB4.out
                  refine (m_heldS HM4.out.mo (by omega) hh64 hb').mono ?_
                  rintro e w5 ⟨⟨p5, c5, l5, rfl, hL5, hP5, hn5⟩, C5⟩
                  obtain rfl := hL5.unique hLb'
                  have HM5 := keepH (HM4.out.quiet C5)
                  have HP5 := keepH (HP4.out.chg C5)
                  have HR5 := keepH (r_pairs p5 pc c5 cc l5 l5 w5 hP5 HP5.out (Nat.le_trans HLL.out (by omega)) (Nat.le_trans HLL.out (by omega)))
                  clear hL5 hP5 hn5 C5 hb' hLb'
                  go_wp2_with fail
                  refine HR5.out.mono ?_
                  rintro e w6 ⟨rfl, C6⟩
                  have HM6 := keepH (HM5.out.quiet C6)
                  have HP6 := keepH (HP5.out.chg C6)
                  clear C6
                  go_wp2_with fail
                  go_roundw
                  case rel => exact ⟨i + 1, by omega, by first | rfl | go_num, ⟨_, _, _, HM6.out, HB4.out, HP6.out⟩⟩
                  case measure => exact meas hlt)
            · have q1 : ¬ (i : Int) < (more.length : Int) := by omega
              obtain rfl : i = more.length := by omega
              clear hlt
              obtain ⟨f, h, g, HM1, ⟨b, hb, hLb⟩, hPx⟩ := HX.out
              have HMM := keepH HM1
              have HPX := keepH hPx
              have eP : pcs h g hdl = some (g b) := by simp [pcs, hb]
              have HEP := keepH eP
              have HB := keepH hb
              have HLB := keepH hLb
              have HD8 := keepH (Do_all (o := ⟨8, 0, 0, 0, hdl, [], 0, 18446744073709551615⟩) (r5 := false) (r6 := 0) (r7 := 0) (kp := none) (kc := 0) (th := 0) ⟨by simp, by simp, by simp, hh64, by simp, by simp⟩ (by decide) HMM.out.mo (by omega) (by omega) (.inl rfl) (A := ⟨0, false, 0, false, 0, lc, 0⟩) (by
                unfold tellP
                rw [if_neg (by simp), if_neg (by simp), if_neg (by simp), if_neg (by simp), if_neg (by simp), if_pos (by simp)]
                simp only [eP]
                rw [if_neg (by simp), if_pos trivial, theL_eq hLb]))
              clear HM1 hPx hb hLb eP
              go_wp2_with fail
              refine HD8.out.mono ?_
              rintro e w8 ⟨⟨p8, c8, rfl, hP8, hPB8, _⟩, ⟨cl, hcl, hM8⟩, C8⟩
              unfold ansC
              have eF : doF ⟨8, 0, 0, 0, hdl, [], 0, 18446744073709551615⟩ ⟨0, false, 0, false, 0, lc, 0⟩ f = f := by
                unfold doF
                rw [if_neg (by simp), if_neg (by simp)]
              have eH : doH ⟨8, 0, 0, 0, hdl, [], 0, 18446744073709551615⟩ ⟨0, false, 0, false, 0, lc, 0⟩ cl h = h := by
                unfold doH
                rw [if_neg (by simp), if_neg (by simp)]
              rw [eF, eH] at hM8
              have HM8 := keepH (HMM.out.step hM8 C8)
              have HP8 := keepH (HPX.out.chgF C8 HPN.out)
              have HQ8 : Hid (PairsAt w8 p8 lc ∧ ∀ bk off, p8 = some ⟨bk, off, none⟩ → ¬ (bk = nw ∨ bk = hd)) := ⟨hP8, fun bk off e => by
                have z1 := hPB8 bk off e
                have z2 := HMM.out.mo.blk
                omega⟩
              have HG8 : Hid (setG g cl f b = g b) := setG_other _ _ (by have := HMM.out.mo.blk.2.2.2 _ _ HB.out; omega)
              obtain ⟨g8, hg8⟩ : ∃ g8, g8 = setG g cl f := ⟨_, rfl⟩
              rw [← hg8] at HM8 HG8
              clear hM8 C8 hcl eF eH hP8 hPB8 hg8
              obtain ⟨w9, hw9⟩ : ∃ w9, w9 = w8.alloc (.cells #[.int .i64 0, .bool false, .int .u64 0, .bool false, .int .u64 0, .slice p8 lc.length c8, .int .u64 0] 40) := ⟨_, rfl⟩
              have C9 : Chg (fun _ => False) w8 w9 := by rw [hw9]; exact (Chg.refl _ _).alloc _
              have HA9 : Hid (w9.heap[w8.heap.size]? = some (.cells #[.int .i64 0, .bool false, .int .u64 0, .bool false, .int .u64 0, .slice p8 lc.length c8, .int .u64 0] 40 (0, 0))) := by rw [hw9]; exact heap_alloc_new _ _
              have HM9 := keepH (HM8.out.quiet C9)
              have HP9 := keepH (HP8.out.chg C9)
              have HQ9 := keepH (HQ8.out.1.chg C9)
              have HBA : Hid (¬ (w8.heap.size = nw ∨ w8.heap.size = hd)) := by have := HM8.out.mo.blk; show ¬ _; omega
              go_upto_region 24 with fail
              rw [← hw9]
              clear hw9 C9
              have HD9 := keepH (Do_all (o := ⟨9, 0, 0, 0, hdl, [], 0, 18446744073709551615⟩) (r5 := false) (r6 := 0) (r7 := 0) (kp := none) (kc := 0) (th := 0) ⟨by simp, by simp, by simp, hh64, by simp, by simp⟩ (by decide) HM9.out.mo (by omega) (by omega) (.inl rfl) (A := ⟨0, false, 0, false, 0, [], lc.length⟩) (by
                have eP : pcs h g8 hdl = some (g b) := by simp [pcs, HB.out, HG8.out]
                unfold tellP
                rw [if_neg (by simp), if_neg (by simp), if_neg (by simp), if_neg (by simp), if_neg (by simp), if_pos (by simp)]
                simp only [eP]
                rw [if_neg (by simp), if_neg (by simp), theL_eq HLB.out]))
              go_wp2_with fail
              refine HD9.out.mono ?_
              rintro e w10 ⟨⟨p10, c10, rfl, _, _, _⟩, ⟨cl, hcl, hM10⟩, C10⟩
              unfold ansC
              have eF : doF ⟨9, 0, 0, 0, hdl, [], 0, 18446744073709551615⟩ ⟨0, false, 0, false, 0, [], lc.length⟩ f = f := by
                unfold doF
                rw [if_neg (by simp), if_neg (by simp)]
              have eH : doH ⟨9, 0, 0, 0, hdl, [], 0, 18446744073709551615⟩ ⟨0, false, 0, false, 0, [], lc.length⟩ cl h = h := by
                unfold doH
                rw [if_neg (by simp), if_neg (by simp)]
              rw [eF, eH] at hM10
              have HM10 := keepH (HM9.out.step hM10 C10)
              have HP10 := keepH (HP9.out.chgF C10 HPN.out)
              have HQ10 := keepH (HQ9.out.chgF C10 HQ8.out.2)
              have HA10 := keepH ((C10.block _ (lt_of HA9.out) HBA.out).trans HA9.out)
              clear hM10 C10 hcl eF eH
              obtain ⟨w11, hw11⟩ : ∃ w11, w11 = w10.alloc (.cells #[.int .i64 0, .bool false, .int .u64 0, .bool false, .int .u64 0, .slice p10 0 c10, .int .u64 (lc.length : Int)] 40) := ⟨_, rfl⟩
              have C11 : Chg (fun _ => False) w10 w11 := by rw [hw11]; exact (Chg.refl _ _).alloc _
              have HN11 : Hid (w11.heap[w10.heap.size]? = some (.cells #[.int .i64 0, .bool false, .int .u64 0, .bool false, .int .u64 0, .slice p10 0 c10, .int .u64 (lc.length : Int)] 40 (0, 0))) := by rw [hw11]; exact heap_alloc_new _ _
              have HM11 := keepH (HM10.out.quiet C11)
              have HP11 := keepH (HP10.out.chg C11)
              have HQ11 := keepH (HQ10.out.chg C11)
              have HA11 := keepH ((C11.block _ (lt_of HA10.out) (fun x => x)).trans HA10.out)
              have HBN : Hid (¬ (w10.heap.size = nw ∨ w10.heap.size = hd)) := by have := HM10.out.mo.blk; show ¬ _; omega
              go_upto_region 25 with fail
              rw [← hw11]
              clear hw11 C11
              have HD11 := keepH (Do_all (o := ⟨6, 0, 0, 0, hdl, [], 0, 0⟩) (r5 := false) (r6 := 0) (r7 := 0) (kp := none) (kc := 0) (th := 0) ⟨by simp, by simp, by simp, hh64, by simp, by simp⟩ (by decide) HM11.out.mo (by omega) (by omega) (.inl rfl) (A := ⟨0, false, 0, false, 0, [], 0⟩) (by
                unfold tellP
                rw [if_neg (by simp), if_neg (by simp), if_neg (by simp), if_pos rfl, if_pos (by simp [pcs, HB.out])]
                rfl))
              go_wp2_with fail
              refine HD11.out.mono ?_
              rintro e w12 ⟨⟨p12, c12, rfl, _, _, _⟩, ⟨cl, hcl, hM12⟩, C12⟩
              unfold ansC
              have eH : doH ⟨6, 0, 0, 0, hdl, [], 0, 0⟩ ⟨0, false, 0, false, 0, [], 0⟩ cl h = updO h hdl none := by
                unfold doH
                rw [if_neg (by simp), if_pos ⟨rfl, rfl⟩]
              rw [eH] at hM12
              have HM12 := keepH (HM11.out.step hM12 C12)
              have HP12 := keepH (HP11.out.chgF C12 HPN.out)
              have HQ12 := keepH (HQ11.out.chgF C12 HQ8.out.2)
              have HA12 := keepH ((C12.block _ (lt_of HA11.out) HBA.out).trans HA11.out)
              have HN12 := keepH ((C12.block _ (lt_of HN11.out) HBN.out).trans HN11.out)
              clear hM12 C12 hcl eH
              obtain ⟨w13, hw13⟩ : ∃ w13, w13 = w12.alloc (.cells #[.int .i64 0, .bool false, .int .u64 0, .bool false, .int .u64 0, .slice p12 0 c12, .int .u64 0] 40) := ⟨_, rfl⟩
              have C13 : Chg (fun _ => False) w12 w13 := by rw [hw13]; exact (Chg.refl _ _).alloc _
              have HZ13 : Hid (w13.heap[w12.heap.size]? = some (.cells #[.int .i64 0, .bool false, .int .u64 0, .bool false, .int .u64 0, .slice p12 0 c12, .int .u64 0] 40 (0, 0))) := by rw [hw13]; exact heap_alloc_new _ _
              have HM13 := keepH (HM12.out.quiet C13)
              have HP13 := keepH (HP12.out.chg C13)
              have HQ13 := keepH (HQ12.out.chg C13)
              have HA13 := keepH ((C13.block _ (lt_of HA12.out) (fun x => x)).trans HA12.out)
              have HN13 := keepH ((C13.block _ (lt_of HN12.out) (fun x => x)).trans HN12.out)
              go_upto_region 26 with fail
              rw [← hw13]
              clear hw13 C13
              go_wp2_with fail
              refine (m_heldN HM13.out.mo hh64 (updO_same _ _ _)).mono ?_
              rintro e z ⟨rfl, rfl⟩
              have a5 : z.cell? ⟨w8.heap.size, 5, none⟩ = some (.slice p8 lc.length c8) := cell_of HA13.out 5
              have HR := keepH (r_pairs p8 pc c8 cc lc lc z HQ13.out HP13.out (Nat.le_trans HLL.out (by omega)) (Nat.le_trans HLL.out (by omega)))
              go_wp2_with fail
              refine HR.out.mono ?_
              rintro e w14 ⟨rfl, C14⟩
              have n6 : w14.cell? ⟨w10.heap.size, 6, none⟩ = some (.int .u64 (lc.length : Int)) := cell_of ((C14.block _ (lt_of HN13.out) (fun x => x)).trans HN13.out) 6
              have z0 : w14.cell? ⟨w12.heap.size, 0, none⟩ = some (.int .i64 0) := cell_of ((C14.block _ (lt_of HZ13.out) (fun x => x)).trans HZ13.out) 0
              have HC14 : Hid (Chg (fun _ => False) W w14) := HM13.out.chg.trans C14 (fun _ _ x => x) (fun _ _ x => x)
              have hll := HLL.out
              clear C14
              go_wp2_with fail
              go_ret
              exact ⟨by simp; try omega, HC14.out⟩
end Go.Proofs.Ytgddedoinhgocaa
