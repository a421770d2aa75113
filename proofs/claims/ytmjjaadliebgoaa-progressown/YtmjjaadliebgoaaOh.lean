/- Own: each thread's steps. -/
import Derived.Test.YtmjjaadliebgoaaOl
import Derived.Deep.RegionHeld
namespace Go.Proofs.Ytmjjaadliebgoaa
open Go.RowKit Go.Maps
set_option linter.unusedVariables false

theorem step_append_base {P : Program} {ops : Array Oper} {o : Oper} {a : Act} {w : World} {K : Act → World → Prop} {Q : Exit → Act → World → Prop} {E : Prop}
    (hgd : o.guard = none) (s x : Operand) (t : TypeId) (ho : o.op = Op.call { callee := Callee.builtin Builtin.append, args := #[s, x], argTypes := #[t, t] })
    (B : Nat) (e : TypeId) (i : TypeInfo) (z : Value) (size bytes : Nat) (ht : P.underlying t = some (.slice e)) (hi : P.info? e = some i) (hz : i.zero = some z)
    (hsize : i.size = size) (hby : i.bytes = bytes) (hzs : z.cells.size = size) (hsz : 0 < size)
    (v : Value) (n : Nat) (xs : List Value) (hs : a.eval s = v) (hown : w.ownsRow B e size v n xs)
    (ad : Addr) (m c : Nat) (news : List Value) (hx : a.eval x = .slice (some ad) m c) (hl : news.length = m * size) (hnews : ∀ j u, news[j]? = some u → w.cell? (ad.add j) = some u) (h1 : ∀ u ∈ news, u.oneCell' = true)
    (h63 : n + m ≤ maxLen) (hbytes : (n + m) * bytes ≤ 140737488355328) (hB : B ≤ w.heap.size)
    (h : ∀ v' w', w'.ownsRow B e size v' (n + m) (xs ++ news) → w.grownBy w' v.ownBlock → (v'.ownBlock = v.ownBlock ∨ v'.ownBlock = some w.heap.size) → K (a.put o.dst v') w') :
    if Region.wanted o (yielded ops a.tmps) = true then Oper.wp P o a w K Q else E := by
  have hw : Region.wanted o (yielded ops a.tmps) = true := by simp [Region.wanted, hgd]
  rw [if_pos hw]
  obtain ⟨v', w', hr, h2, h3, h4, h5⟩ := run_append_own_at (P := P) w B t o.type e i z size bytes ht hi hz hsize hby hzs hsz v n xs hown ad m c news hl hnews h1 h63 hbytes hB
  unfold Oper.wp execOp
  simp only [ho, resolve, invoke, builtin, Sem.run_bind, Sem.run_pure, Result.andThen_ok, List.map_toArray, List.map_cons, List.map_nil, hs, hx, hr]
  exact h v' w' h2 h3 h5
theorem step_update {H : Type} {P : Program} {ops : Array Oper} {o : Oper} {a : Act} {w : World} {K' : Act → World → Prop} {Q : Exit → Act → World → Prop} {E : Prop}
    (hgd : o.guard = none) (m x v : Operand) (t : TypeId) (hop : o.op = Op.mapUpdate t m x v)
    (k e : TypeId) (K : Keyed P k) (ht : P.underlying t = some (.map k e)) (R : Value → Option (DataW H × List MemPlace)) (b n : Nat) (D : DataW H)
    (hm : a.eval m = .map (some b)) (hown : w.ownsMap P k R b n D) (hn : n < maxLen) (key val : Value) (kl : Lit) (hx : a.eval x = key) (hv : a.eval v = val) (hkey : keyOf P k key = some kl)
    (d : DataW H) (ps : List MemPlace) (hval : R val = some (d, ps))
    (hK : ∀ w', w'.ownsMap P k R b (n + 1) (D.put kl d) → w.grownBy w' (some b) → K' (a.put o.dst undef) w') :
    if Region.wanted o (yielded ops a.tmps) = true then Oper.wp P o a w K' Q else E := by
  have hw : Region.wanted o (yielded ops a.tmps) = true := by simp [Region.wanted, hgd]
  rw [if_pos hw]
  obtain ⟨w', hrun, r1, r2⟩ := hown.update K ht hn hkey hval
  unfold Oper.wp
  simp [execOp, hop, hm, hx, hv, hrun, Result.andThen]
  exact hK w' r1 r2
theorem step_look {P : Program} {ops : Array Oper} {o : Oper} {a : Act} {w : World} {K' : Act → World → Prop} {Q : Exit → Act → World → Prop} {E : Prop}
    (hgd : o.guard = none) (m x : Operand) (t : TypeId) (hop : o.op = Op.lookup t m x false) (mv key v : Value) (hm : a.eval m = mv) (hx : a.eval x = key) (hrun : (Instr.lookup t mv key false).run P w = .ok v w)
    (hK : K' (a.put o.dst v) w) : if Region.wanted o (yielded ops a.tmps) = true then Oper.wp P o a w K' Q else E := by
  have hw : Region.wanted o (yielded ops a.tmps) = true := by simp [Region.wanted, hgd]
  rw [if_pos hw]
  unfold Oper.wp
  simp [execOp, hop, hm, hx, hrun, Result.andThen]
  exact hK
def zeroAcc : AccA := ⟨0, 0, 0, 0, 0, none, 0, 0, 0, false⟩
theorem acc_size (x : AccA) : (Try.prog.info? 44).map (·.size) = some x.cells.length := by
  rw [show x.cells.length = 8 from rfl]; kernel_rfl
theorem acc_size' (x : AccA) : (Try.prog.info? 44).map (·.size) = some x.cells.toArray.size := by
  rw [show x.cells.toArray.size = 8 from rfl]; kernel_rfl
theorem acc_one (x : AccA) : x.cells.toArray.all (·.oneCell') = true := by unfold AccA.cells; simp [Value.oneCell']
theorem steps_upd {r : ResA} {k : Nat} {x : AccA} (hx : r.ts[k]? = some x) : (fun z => stepsOf r z (k + 1)) = updF (fun z => stepsOf r z k) x.th (stepsOf r x.th k ++ [stp r.ss k]) := by
  funext z
  simp only [stepsOf, hx, Option.map_some, Option.some.injEq, updF]
  by_cases c : x.th = z
  · subst c; simp
  · rw [if_neg c, if_neg (fun e => c e.symm)]
def SW (r : ResA) (W : World) (P : Nat) (th : Int) (w : World) : Prop := w.cell? ⟨P, 0, none⟩ = some (.int .i64 th) ∧ ∀ i v, r.cells[i]? = some v → w.cell? ⟨W.heap.size, i, none⟩ = some v

theorem sw_keep {r : ResA} {W w w' : World} {P : Nat} {th : Int} {row : Option Nat} (h : SW r W P th w) (hg : w.grownBy w' row) (hP : some P ≠ row) (hW : some W.heap.size ≠ row) : SW r W P th w' := by
  have lP : P < w.heap.size := World.block_lt_of_cell? w _ h.1
  have lW : W.heap.size < w.heap.size := World.block_lt_of_cell? w _ (h.2 0 _ rfl)
  refine ⟨?_, fun i v hv => ?_⟩
  · rw [← h.1]; simp only [World.cell?, hg.block P lP hP]
  · rw [← h.2 i v hv]; simp only [World.cell?, hg.block W.heap.size lW hW]
theorem rowB_type {W : World} {B : Nat} {e t : TypeId} {s n b : Nat} {v : Value} {xs : List Value} {cs : Array Value} {f : Nat × Nat} (h : W.ownsRow B e s v n xs) (hb : W.heap[b]? = some (.cells cs t f)) (hne : e ≠ t) : v.ownBlock ≠ some b := by
  intro hk
  rcases h.2 with ⟨h2, _⟩ | ⟨g, cap, cur, hv, hg, hh, _⟩
  · rw [h2] at hk; simp [Value.ownBlock] at hk
  · rw [hv] at hk
    simp [Value.ownBlock] at hk
    subst hk
    rw [hh] at hb
    simp at hb
    exact hne hb.2.1
theorem GM.map_ne {r : ResA} {W wr : World} {D : DataW Value} {n : Nat} {f : Int → List Int} {g : Int → Value} (h : GM r W wr D n f g) {b : Nat} {cs : Array Value} {t : TypeId} {q : Nat × Nat} (hb : wr.heap[b]? = some (.cells cs t q)) : some b ≠ some (W.heap.size + 1) := by
  intro e
  injection e with e
  subst e
  obtain ⟨es, clock, hm, _⟩ := h.own
  rw [hm] at hb
  simp at hb
theorem GM.own_grown {r : ResA} {W wr wx : World} {D : DataW Value} {n : Nat} {f : Int → List Int} {g : Int → Value} (h : GM r W wr D n f g) (z : Int) (hg : wr.grownBy wx (g z).ownBlock) : wx.ownsMap Try.prog 3 heldR (W.heap.size + 1) n D :=
  h.own.kept hg (fun e => by have := ((h.row z).lt _ e.symm).1; omega)
theorem GM.box_ne {r : ResA} {W wr : World} {D : DataW Value} {n : Nat} {f : Int → List Int} {g : Int → Value} (h : GM r W wr D n f g) (z : Int) : some W.heap.size ≠ (g z).ownBlock := fun e => by have := ((h.row z).lt _ e.symm).1; omega

set_option maxRecDepth 100000 in
set_option maxHeartbeats 8000000 in
theorem p_own (r : ResA) (W : World) (h : r.At W) : Calls Try.prog 6 #[.agg r.cells.toArray] W fun e w => ∃ v, e = .returned v ∧ w.ownsRow (W.heap.size + 2) 3 1 v r.ds.length ((ownL r r.ds.length).map (Value.int .i64)) ∧ Chg (fun _ => False) W w := by
  have HR := keepH h
  have hnd := h.nd
  have hnt := h.nt
  clear h
  obtain ⟨i0, hi, hz0, hz1, hz2⟩ := info_parts info3
  have hmm := @run_makeMap Try.prog
  obtain ⟨W1, hW1⟩ : ∃ W1, W1 = (W.alloc (.cells r.cells.toArray 26)).alloc (.map #[] 0) := ⟨_, rfl⟩
  have G1 := GM.start hW1
  have b1 : W1.cell? ⟨W.heap.size, 1, none⟩ = some (.slice r.pt r.ts.length r.ct) := cell_of G1.box 1
  have HG1 := keepH G1
  clear G1
  go_enter Try.func6, Try.ntmps6
  go_upto_region 2 with fail
  rw [← hW1]
  clear hW1 hmm
  go_wp2_with fail
  clear b1
  go_loopw [15] (fun s wr => ∃ (k : Nat) (D : DataW Value) (g : Int → Value), k ≤ r.ts.length ∧ s = .int .i64 (k : Int) ∧ Hid (GM r W wr D k (fun z => stepsOf r z k) g)) (fun s _ => r.ts.length - (intOf s).toNat)
  case atStart => exact ⟨0, _, _, by omega, rfl, HG1⟩
  case round =>
    clear HG1
    obtain ⟨k, D, g, hk, rfl, HG⟩ := hrel
    by_cases hlt : k < r.ts.length
    · have t1 : (k : Int) < (r.ts.length : Int) := by omega
      obtain ⟨x, hx⟩ : ∃ x, r.ts[k]? = some x := ⟨r.ts[k], List.getElem?_eq_getElem hlt⟩
      obtain ⟨bk, off, e, hb, c0⟩ := (HR.out.ts.chg HG.out.chg).get k x.cells (by simp [hx])
      obtain ⟨w2, hw2, B2, C2, th⟩ := new_row wr 44 zeroAcc.cells x.cells rfl
      have HX := keepH hx
      have HW2 := keepH hw2
      have HTH := keepH th
      have HB2 := keepH B2
      have HC0 := keepH c0
      have HG2 := keepH (HG.out.quiet C2)
      rw [e]
      clear hx hw2 th B2 C2 c0 hb e
      go_upto_region 5 with (first
        | (refine wpList_load_mid rfl 44 (.tmp 18) rfl bk (off + k * 8) rfl x.cells _ HC0.out Try.underlying44 rfl (acc_size x) ?_)
        | (refine wpList_store_to rfl 44 (.tmp 5) (.tmp 19) rfl wr.heap.size 0 x.cells.toArray rfl rfl HTH.out (acc_size' x) (acc_one x) w2 HW2.out ?_; clear HW2 HTH)
        | fail)
      obtain ⟨P, hP⟩ : ∃ P, P = wr.heap.size := ⟨_, rfl⟩
      rw [← hP]
      have HB3 : Hid (w2.heap[P]? = some (.cells x.cells.toArray 44 (0, 0))) := by rw [hP]; exact HB2.out
      clear hP HB2 HC0 HG
      have HSS : Hid (∀ w, Chg (fun _ => False) w2 w → SW r W P x.th w) := fun w hc => ⟨cell_of ((hc.block _ (lt_of HB3.out) (fun x => x)).trans HB3.out) 0, fun i v hv => by rw [cell_of ((hc.block _ (lt_of HG2.out.box) (fun x => x)).trans HG2.out.box) i]; simpa using hv⟩
      have HSL : Hid (∀ w, Chg (fun _ => False) w2 w → Calls Try.prog 12 #[.agg r.cells.toArray, .int .i64 (k : Int)] w fun e w' => e = .returned (.int .i64 (stp r.ss k)) ∧ Chg (fun _ => False) w w') := fun w hc => p_step r k w (HR.out.chg (HG2.out.chg.falls hc)) (by omega)
      have hS0 : Chg (fun _ => False) w2 w2.drew := (Chg.refl _ _).drew
      have HS0 := keepH hS0
      have hle := stepsOf_le r x.th k
      have hwf : (Lit.int .i64 x.th).wf = true := HR.out.wt x (List.mem_of_getElem? HX.out)
      have hkey : keyOf Try.prog 3 (.int .i64 x.th) = some (.int .i64 x.th) := keyOf_int_mk Try.underlying3 hwf
      refine wp_region_held_drew (S := SW r W P x.th) (by kernel_rfl) (HSS.out _ hS0) ?_
      intro hHeld
      refine wpAnyH_take (i := 0) (v := ?_) rfl (by kernel_rfl) (by kernel_rfl) (by kernel_rfl) (fun _ _ _ h => h) (Or.inl ⟨by rfl, ?_⟩) hHeld ?_
      rotate_left
      · intro w hSw
        obtain ⟨y0, y1⟩ := hSw
        go_simp
        try with_reducible rfl
      (try simp only [Act.put, List.getElem_toArray, List.getElem_cons_zero]); (try simp only [List.setIfInBounds_toArray]); (repeat (first | simp only [List.set_cons_succ] | simp only [List.set_cons_zero]))
      refine wpAnyH_take (i := 1) (v := ?_) rfl (by kernel_rfl) (by kernel_rfl) (by kernel_rfl) (fun _ _ _ h => h) (Or.inl ⟨by rfl, ?_⟩) hHeld ?_
      rotate_left
      · intro w hSw
        obtain ⟨y0, y1⟩ := hSw
        go_simp
        try with_reducible rfl
      (try simp only [Act.put, List.getElem_toArray, List.getElem_cons_succ, List.getElem_cons_zero]); (try simp only [List.setIfInBounds_toArray]); (repeat (first | simp only [List.set_cons_succ] | simp only [List.set_cons_zero]))
      refine wpAnyH_take (i := 2) (v := ?_) rfl (by kernel_rfl) (by kernel_rfl) (by kernel_rfl) (fun _ _ _ h => h) (Or.inl ⟨by rfl, ?_⟩) hHeld ?_
      rotate_left
      · intro w hSw
        obtain ⟨y0, y1⟩ := hSw
        go_simp
        try with_reducible rfl
      (try simp only [Act.put, List.getElem_toArray, List.getElem_cons_succ, List.getElem_cons_zero]); (try simp only [List.setIfInBounds_toArray]); (repeat (first | simp only [List.set_cons_succ] | simp only [List.set_cons_zero]))
      refine wpAnyH_take (i := 3) (v := ?_) rfl (by kernel_rfl) (by kernel_rfl) (by kernel_rfl) (fun _ _ _ h => h) (Or.inl ⟨by rfl, ?_⟩) hHeld ?_
      rotate_left
      · intro w hSw
        obtain ⟨y0, y1⟩ := hSw
        go_simp
        try with_reducible rfl
      (try simp only [Act.put, List.getElem_toArray, List.getElem_cons_succ, List.getElem_cons_zero]); (try simp only [List.setIfInBounds_toArray]); (repeat (first | simp only [List.set_cons_succ] | simp only [List.set_cons_zero]))
      refine wpAnyH_take (i := 4) (v := ?_) rfl (by kernel_rfl) (by kernel_rfl) (by kernel_rfl) (fun _ _ _ h => h) (Or.inl ⟨by rfl, ?_⟩) hHeld ?_
      rotate_left
      · intro w hSw
        obtain ⟨y0, y1⟩ := hSw
        go_simp
        try with_reducible rfl
      (try simp only [Act.put, List.getElem_toArray, List.getElem_cons_succ, List.getElem_cons_zero]); (try simp only [List.setIfInBounds_toArray]); (repeat (first | simp only [List.set_cons_succ] | simp only [List.set_cons_zero]))
      refine wpAnyH_take (i := 5) (v := ?_) rfl (by kernel_rfl) (by kernel_rfl) (by kernel_rfl) (fun _ _ _ h => h) (Or.inl ⟨by rfl, ?_⟩) hHeld ?_
      rotate_left
      · intro w hSw
        obtain ⟨y0, y1⟩ := hSw
        go_simp
        try with_reducible rfl
      (try simp only [Act.put, List.getElem_toArray, List.getElem_cons_succ, List.getElem_cons_zero]); (try simp only [List.setIfInBounds_toArray]); (repeat (first | simp only [List.set_cons_succ] | simp only [List.set_cons_zero]))
      refine wpAnyH_take (i := 7) (v := ?_) rfl (by kernel_rfl) (by kernel_rfl) (by kernel_rfl) (fun _ _ _ h => h) (Or.inl ⟨by rfl, ?_⟩) hHeld ?_
      rotate_left
      · intro w hSw
        obtain ⟨y0, y1⟩ := hSw
        have z0 := y1 0 _ rfl
        have z1 := y1 1 _ rfl
        have z2 := y1 2 _ rfl
        go_simp
        try with_reducible rfl
      (try simp only [Act.put, List.getElem_toArray, List.getElem_cons_succ, List.getElem_cons_zero]); (try simp only [List.setIfInBounds_toArray]); (repeat (first | simp only [List.set_cons_succ] | simp only [List.set_cons_zero]))
      refine wpAnyH_take (i := 8) (v := ?_) rfl (by kernel_rfl) (by kernel_rfl) (by kernel_rfl) (fun _ _ _ h => h) (Or.inl ⟨by rfl, ?_⟩) hHeld ?_
      rotate_left
      · intro w hSw
        obtain ⟨y0, y1⟩ := hSw
        go_simp
        try with_reducible rfl
      (try simp only [Act.put, List.getElem_toArray, List.getElem_cons_succ, List.getElem_cons_zero]); (try simp only [List.setIfInBounds_toArray]); (repeat (first | simp only [List.set_cons_succ] | simp only [List.set_cons_zero]))
      refine wpAnyH_ready (rs := [6, 9]) (by kernel_rfl) (by simp) ?_
      refine AllReadyH.cons rfl (fun KK hKK => ?_) (AllReadyH.cons rfl (fun KK hKK => ?_) AllReadyH.nil)
      · refine step_look rfl (.tmp 23) (.tmp 25) 40 rfl (.map (some (W.heap.size + 1))) (.int .i64 x.th) (g x.th) rfl rfl ((HG2.out.quiet HS0.out).look hwf) ?_
        refine hKK.out _ _ ?_ (fun hHeld => ?_)
        · exact HSS.out _ HS0.out
        clear hKK KK
        (try simp only [Act.put, List.getElem_toArray, List.getElem_cons_succ, List.getElem_cons_zero]); (try simp only [List.setIfInBounds_toArray]); (repeat (first | simp only [List.set_cons_succ] | simp only [List.set_cons_zero]))
        refine wpAnyH_ready (rs := [9]) (by kernel_rfl) (by simp) ?_
        refine AllReadyH.cons rfl (fun KK hKK => ?_) AllReadyH.nil
        go_simp
        go_at_call 12
        refine (HSL.out _ HS0.out).mono ?_
        rintro e w1 ⟨rfl, C1⟩
        have HC1 := keepH (HS0.out.falls C1)
        clear C1
        try go_wp2_with fail
        refine hKK.out _ _ ?_ (fun hHeld => ?_)
        · exact HSS.out _ HC1.out
        clear hKK KK
        (try simp only [Act.put, List.getElem_toArray, List.getElem_cons_succ, List.getElem_cons_zero]); (try simp only [List.setIfInBounds_toArray]); (repeat (first | simp only [List.set_cons_succ] | simp only [List.set_cons_zero]))
        refine wpAnyH_ready (rs := [10]) (by kernel_rfl) (by simp) ?_
        refine AllReadyH.cons rfl (fun KK hKK => ?_) AllReadyH.nil
        go_simp
        refine hKK.out _ _ ?_ (fun hHeld => ?_)
        · exact HSS.out _ (HC1.out.alloc _)
        clear hKK KK
        (try simp only [Act.put, List.getElem_toArray, List.getElem_cons_succ, List.getElem_cons_zero]); (try simp only [List.setIfInBounds_toArray]); (repeat (first | simp only [List.set_cons_succ] | simp only [List.set_cons_zero]))
        refine wpAnyH_ready (rs := [11]) (by kernel_rfl) (by simp) ?_
        refine AllReadyH.cons rfl (fun KK hKK => ?_) AllReadyH.nil
        refine step_append_base rfl (.tmp 26) (.tmp 30) 24 rfl (W.heap.size + 2) 3 i0 (.int .i64 0) 1 8 Try.underlying24 hi hz0 hz1 hz2 rfl (by decide) (g x.th) (stepsOf r x.th k).length _ rfl (((HG2.out.quiet HC1.out).row x.th).alloc _) ⟨w1.heap.size, 0, none⟩ 1 1 [.int .i64 (stp r.ss k)] rfl rfl (cell_one_new _ _ _) (ints_oneCell .i64 [stp r.ss k]) (by unfold maxLen; omega) (by omega) (by have := (HG2.out.quiet HC1.out).own.lt; simp; omega) ?_
        intro v2 w3 hr3 hg3 hl3
        have HR3 := keepH hr3
        have HG3 := keepH ((World.grownBy_alloc w1 _ _).trans hg3)
        have HL3 := keepH hl3
        clear hr3 hg3 hl3
        refine hKK.out _ _ ?_ (fun hHeld => ?_)
        · exact (sw_keep (HSS.out _ HC1.out) HG3.out (Ne.symm (rowB_type ((HG2.out.quiet HC1.out).row x.th) ((HC1.out.block _ (lt_of HB3.out) (fun x => x)).trans HB3.out) (by decide))) ((HG2.out.quiet HC1.out).box_ne x.th))
        clear hKK KK
        (try simp only [Act.put, List.getElem_toArray, List.getElem_cons_succ, List.getElem_cons_zero]); (try simp only [List.setIfInBounds_toArray]); (repeat (first | simp only [List.set_cons_succ] | simp only [List.set_cons_zero]))
        refine wpAnyH_ready (rs := [12]) (by kernel_rfl) (by simp) ?_
        refine AllReadyH.cons rfl (fun KK hKK => ?_) AllReadyH.nil
        refine step_update rfl (.tmp 20) (.tmp 22) (.tmp 31) 40 rfl 3 24 law3 Try.underlying40 heldR (W.heap.size + 1) k D rfl ((HG2.out.quiet HC1.out).own_grown x.th HG3.out) (by unfold maxLen; omega) (.int .i64 x.th) v2 (.int .i64 x.th) rfl rfl hkey (.held v2) [] rfl ?_
        intro w4 ho4 hg4
        have HG4 := keepH ((HG2.out.quiet HC1.out).put HR3.out HG3.out (HL3.out.imp id (fun h => ⟨_, h, by simp⟩)) ho4 hg4)
        rw [← steps_upd HX.out] at HG4
        have HG44 := keepH HG4.out
        have HG5 := keepH hg4
        clear ho4 hg4
        refine hKK.out _ _ ?_ (fun hHeld => ?_)
        · exact sw_keep (sw_keep (HSS.out _ HC1.out) HG3.out (Ne.symm (rowB_type ((HG2.out.quiet HC1.out).row x.th) ((HC1.out.block _ (lt_of HB3.out) (fun x => x)).trans HB3.out) (by decide))) ((HG2.out.quiet HC1.out).box_ne x.th)) HG5.out ((HG2.out.quiet HC1.out).map_ne ((HC1.out.block _ (lt_of HB3.out) (fun x => x)).trans HB3.out)) (by simp)
        clear hKK KK
        (try simp only [Act.put, List.getElem_toArray, List.getElem_cons_succ, List.getElem_cons_zero]); (try simp only [List.setIfInBounds_toArray]); (repeat (first | simp only [List.set_cons_succ] | simp only [List.set_cons_zero]))
        refine wpAnyH_done (by kernel_rfl) ?_ _
        go_simp
        go_wp2_with fail
        go_roundw
        case rel => exact ⟨k + 1, _, _, by omega, by first | rfl | go_num, HG44⟩
        case measure => simp [intOf]; omega
      · go_simp
        go_at_call 12
        refine (HSL.out _ HS0.out).mono ?_
        rintro e w1 ⟨rfl, C1⟩
        have HC1 := keepH (HS0.out.falls C1)
        clear C1
        try go_wp2_with fail
        refine hKK.out _ _ ?_ (fun hHeld => ?_)
        · exact HSS.out _ HC1.out
        clear hKK KK
        (try simp only [Act.put, List.getElem_toArray, List.getElem_cons_succ, List.getElem_cons_zero]); (try simp only [List.setIfInBounds_toArray]); (repeat (first | simp only [List.set_cons_succ] | simp only [List.set_cons_zero]))
        refine wpAnyH_ready (rs := [6, 10]) (by kernel_rfl) (by simp) ?_
        refine AllReadyH.cons rfl (fun KK hKK => ?_) (AllReadyH.cons rfl (fun KK hKK => ?_) AllReadyH.nil)
        · refine step_look rfl (.tmp 23) (.tmp 25) 40 rfl (.map (some (W.heap.size + 1))) (.int .i64 x.th) (g x.th) rfl rfl ((HG2.out.quiet HC1.out).look hwf) ?_
          refine hKK.out _ _ ?_ (fun hHeld => ?_)
          · exact HSS.out _ HC1.out
          clear hKK KK
          (try simp only [Act.put, List.getElem_toArray, List.getElem_cons_succ, List.getElem_cons_zero]); (try simp only [List.setIfInBounds_toArray]); (repeat (first | simp only [List.set_cons_succ] | simp only [List.set_cons_zero]))
          refine wpAnyH_ready (rs := [10]) (by kernel_rfl) (by simp) ?_
          refine AllReadyH.cons rfl (fun KK hKK => ?_) AllReadyH.nil
          go_simp
          refine hKK.out _ _ ?_ (fun hHeld => ?_)
          · exact HSS.out _ (HC1.out.alloc _)
          clear hKK KK
          (try simp only [Act.put, List.getElem_toArray, List.getElem_cons_succ, List.getElem_cons_zero]); (try simp only [List.setIfInBounds_toArray]); (repeat (first | simp only [List.set_cons_succ] | simp only [List.set_cons_zero]))
          refine wpAnyH_ready (rs := [11]) (by kernel_rfl) (by simp) ?_
          refine AllReadyH.cons rfl (fun KK hKK => ?_) AllReadyH.nil
          refine step_append_base rfl (.tmp 26) (.tmp 30) 24 rfl (W.heap.size + 2) 3 i0 (.int .i64 0) 1 8 Try.underlying24 hi hz0 hz1 hz2 rfl (by decide) (g x.th) (stepsOf r x.th k).length _ rfl (((HG2.out.quiet HC1.out).row x.th).alloc _) ⟨w1.heap.size, 0, none⟩ 1 1 [.int .i64 (stp r.ss k)] rfl rfl (cell_one_new _ _ _) (ints_oneCell .i64 [stp r.ss k]) (by unfold maxLen; omega) (by omega) (by have := (HG2.out.quiet HC1.out).own.lt; simp; omega) ?_
          intro v2 w3 hr3 hg3 hl3
          have HR3 := keepH hr3
          have HG3 := keepH ((World.grownBy_alloc w1 _ _).trans hg3)
          have HL3 := keepH hl3
          clear hr3 hg3 hl3
          refine hKK.out _ _ ?_ (fun hHeld => ?_)
          · exact (sw_keep (HSS.out _ HC1.out) HG3.out (Ne.symm (rowB_type ((HG2.out.quiet HC1.out).row x.th) ((HC1.out.block _ (lt_of HB3.out) (fun x => x)).trans HB3.out) (by decide))) ((HG2.out.quiet HC1.out).box_ne x.th))
          clear hKK KK
          (try simp only [Act.put, List.getElem_toArray, List.getElem_cons_succ, List.getElem_cons_zero]); (try simp only [List.setIfInBounds_toArray]); (repeat (first | simp only [List.set_cons_succ] | simp only [List.set_cons_zero]))
          refine wpAnyH_ready (rs := [12]) (by kernel_rfl) (by simp) ?_
          refine AllReadyH.cons rfl (fun KK hKK => ?_) AllReadyH.nil
          refine step_update rfl (.tmp 20) (.tmp 22) (.tmp 31) 40 rfl 3 24 law3 Try.underlying40 heldR (W.heap.size + 1) k D rfl ((HG2.out.quiet HC1.out).own_grown x.th HG3.out) (by unfold maxLen; omega) (.int .i64 x.th) v2 (.int .i64 x.th) rfl rfl hkey (.held v2) [] rfl ?_
          intro w4 ho4 hg4
          have HG4 := keepH ((HG2.out.quiet HC1.out).put HR3.out HG3.out (HL3.out.imp id (fun h => ⟨_, h, by simp⟩)) ho4 hg4)
          rw [← steps_upd HX.out] at HG4
          have HG44 := keepH HG4.out
          have HG5 := keepH hg4
          clear ho4 hg4
          refine hKK.out _ _ ?_ (fun hHeld => ?_)
          · exact sw_keep (sw_keep (HSS.out _ HC1.out) HG3.out (Ne.symm (rowB_type ((HG2.out.quiet HC1.out).row x.th) ((HC1.out.block _ (lt_of HB3.out) (fun x => x)).trans HB3.out) (by decide))) ((HG2.out.quiet HC1.out).box_ne x.th)) HG5.out ((HG2.out.quiet HC1.out).map_ne ((HC1.out.block _ (lt_of HB3.out) (fun x => x)).trans HB3.out)) (by simp)
          clear hKK KK
          (try simp only [Act.put, List.getElem_toArray, List.getElem_cons_succ, List.getElem_cons_zero]); (try simp only [List.setIfInBounds_toArray]); (repeat (first | simp only [List.set_cons_succ] | simp only [List.set_cons_zero]))
          refine wpAnyH_done (by kernel_rfl) ?_ _
          go_simp
          go_wp2_with fail
          go_roundw
          case rel => exact ⟨k + 1, _, _, by omega, by first | rfl | go_num, HG44⟩
          case measure => simp [intOf]; omega
        · go_simp
          refine hKK.out _ _ ?_ (fun hHeld => ?_)
          · exact HSS.out _ (HC1.out.alloc _)
          clear hKK KK
          (try simp only [Act.put, List.getElem_toArray, List.getElem_cons_succ, List.getElem_cons_zero]); (try simp only [List.setIfInBounds_toArray]); (repeat (first | simp only [List.set_cons_succ] | simp only [List.set_cons_zero]))
          refine wpAnyH_ready (rs := [6]) (by kernel_rfl) (by simp) ?_
          refine AllReadyH.cons rfl (fun KK hKK => ?_) AllReadyH.nil
          refine step_look rfl (.tmp 23) (.tmp 25) 40 rfl (.map (some (W.heap.size + 1))) (.int .i64 x.th) (g x.th) rfl rfl ((HG2.out.quiet (HC1.out.alloc _)).look hwf) ?_
          refine hKK.out _ _ ?_ (fun hHeld => ?_)
          · exact HSS.out _ (HC1.out.alloc _)
          clear hKK KK
          (try simp only [Act.put, List.getElem_toArray, List.getElem_cons_succ, List.getElem_cons_zero]); (try simp only [List.setIfInBounds_toArray]); (repeat (first | simp only [List.set_cons_succ] | simp only [List.set_cons_zero]))
          refine wpAnyH_ready (rs := [11]) (by kernel_rfl) (by simp) ?_
          refine AllReadyH.cons rfl (fun KK hKK => ?_) AllReadyH.nil
          refine step_append_base rfl (.tmp 26) (.tmp 30) 24 rfl (W.heap.size + 2) 3 i0 (.int .i64 0) 1 8 Try.underlying24 hi hz0 hz1 hz2 rfl (by decide) (g x.th) (stepsOf r x.th k).length _ rfl (((HG2.out.quiet HC1.out).row x.th).alloc _) ⟨w1.heap.size, 0, none⟩ 1 1 [.int .i64 (stp r.ss k)] rfl rfl (cell_one_new _ _ _) (ints_oneCell .i64 [stp r.ss k]) (by unfold maxLen; omega) (by omega) (by have := (HG2.out.quiet HC1.out).own.lt; simp; omega) ?_
          intro v2 w3 hr3 hg3 hl3
          have HR3 := keepH hr3
          have HG3 := keepH ((World.grownBy_alloc w1 _ _).trans hg3)
          have HL3 := keepH hl3
          clear hr3 hg3 hl3
          refine hKK.out _ _ ?_ (fun hHeld => ?_)
          · exact (sw_keep (HSS.out _ HC1.out) HG3.out (Ne.symm (rowB_type ((HG2.out.quiet HC1.out).row x.th) ((HC1.out.block _ (lt_of HB3.out) (fun x => x)).trans HB3.out) (by decide))) ((HG2.out.quiet HC1.out).box_ne x.th))
          clear hKK KK
          (try simp only [Act.put, List.getElem_toArray, List.getElem_cons_succ, List.getElem_cons_zero]); (try simp only [List.setIfInBounds_toArray]); (repeat (first | simp only [List.set_cons_succ] | simp only [List.set_cons_zero]))
          refine wpAnyH_ready (rs := [12]) (by kernel_rfl) (by simp) ?_
          refine AllReadyH.cons rfl (fun KK hKK => ?_) AllReadyH.nil
          refine step_update rfl (.tmp 20) (.tmp 22) (.tmp 31) 40 rfl 3 24 law3 Try.underlying40 heldR (W.heap.size + 1) k D rfl ((HG2.out.quiet HC1.out).own_grown x.th HG3.out) (by unfold maxLen; omega) (.int .i64 x.th) v2 (.int .i64 x.th) rfl rfl hkey (.held v2) [] rfl ?_
          intro w4 ho4 hg4
          have HG4 := keepH ((HG2.out.quiet HC1.out).put HR3.out HG3.out (HL3.out.imp id (fun h => ⟨_, h, by simp⟩)) ho4 hg4)
          rw [← steps_upd HX.out] at HG4
          have HG44 := keepH HG4.out
          have HG5 := keepH hg4
          clear ho4 hg4
          refine hKK.out _ _ ?_ (fun hHeld => ?_)
          · exact sw_keep (sw_keep (HSS.out _ HC1.out) HG3.out (Ne.symm (rowB_type ((HG2.out.quiet HC1.out).row x.th) ((HC1.out.block _ (lt_of HB3.out) (fun x => x)).trans HB3.out) (by decide))) ((HG2.out.quiet HC1.out).box_ne x.th)) HG5.out ((HG2.out.quiet HC1.out).map_ne ((HC1.out.block _ (lt_of HB3.out) (fun x => x)).trans HB3.out)) (by simp)
          clear hKK KK
          (try simp only [Act.put, List.getElem_toArray, List.getElem_cons_succ, List.getElem_cons_zero]); (try simp only [List.setIfInBounds_toArray]); (repeat (first | simp only [List.set_cons_succ] | simp only [List.set_cons_zero]))
          refine wpAnyH_done (by kernel_rfl) ?_ _
          go_simp
          go_wp2_with fail
          go_roundw
          case rel => exact ⟨k + 1, _, _, by omega, by first | rfl | go_num, HG44⟩
          case measure => simp [intOf]; omega
    · obtain rfl : k = r.ts.length := by omega
      have t1 : ¬ (r.ts.length : Int) < (r.ts.length : Int) := by omega
      obtain ⟨Rb, hRb⟩ : ∃ Rb, Rb = wr.heap.size := ⟨_, rfl⟩
      have HRb := keepH hRb
      clear hRb
      go_wp2_with (first
        | (at_range; refine wpList_range_own _ rfl _ 40 rfl 3 24 law3 Try.underlying40 heldR (W.heap.size + 1) r.ts.length D rfl HG.out.own ?_; intro w0 hrg0 hg0 hs0)
        | fail)
      (try go_frame)
      have HR0 : Hid (RG r W w0 D r.ts.length (fun z => stepsOf r z r.ts.length) g Rb (Maps.has D) (Maps.size D)) := by rw [HRb.out]; exact RG.start HG.out hrg0 hg0
      rw [← HRb.out]
      clear hrg0 hg0 hs0 HG HRb
      go_loopw [7] (fun _ wx => ∃ left cnt, Hid (RG r W wx D r.ts.length (fun z => stepsOf r z r.ts.length) g Rb left cnt)) (fun _ wx => wx.rangeLeft (W.heap.size + 1) Rb)
      case atStart => exact ⟨_, _, HR0⟩
      case round =>
        clear HR0
        obtain ⟨left, cnt, HQ⟩ := hrel
        go_wp2_with (first
          | (at_next; refine wpList_next_ranges _ rfl _ rfl 3 law3 heldR (Value.int .i64) id (fun key kl hk => by obtain ⟨x, rfl, _⟩ := Maps.keyOf_int_inv Try.underlying3 hk; exact ⟨x, rfl⟩) (fun v y _ => ⟨v, rfl⟩) (W.heap.size + 1) Rb r.ts.length D left cnt rfl HQ.out.rg ?_ ?_)
          | fail)
        · intro _ hl0
          have HF := keepH (FL.start HQ.out hl0)
          have b0 : wr.cell? ⟨W.heap.size, 0, none⟩ = some (.slice r.pd r.ds.length r.cd) := cell_of HF.out.box 0
          clear hl0 HQ
          go_wp2_with fail
          clear b0
          go_loopw [8, 44] (fun v s wx => ∃ i : Nat, i ≤ r.ds.length ∧ s = .int .i64 (i : Int) ∧ Hid (FL r W wx D r.ts.length (fun z => stepsOf r z r.ts.length) g v i)) (fun _ s _ => r.ds.length - (intOf s).toNat)
          case atStart => exact ⟨0, by omega, rfl, HF⟩
          case round =>
            clear HF
            obtain ⟨i, hk, rfl, HF⟩ := hrel
            by_cases hlt : i < r.ds.length
            · have t2 : (i : Int) < (r.ds.length : Int) := by omega
              obtain ⟨d, hd⟩ : ∃ d, r.ds[i]? = some d := ⟨r.ds[i], List.getElem?_eq_getElem hlt⟩
              obtain ⟨bk, off, e, hb, c0⟩ := (HR.out.ds.chg HF.out.chg).get i d.cells (by simp [hd])
              obtain ⟨w2, hw2, B2, C2, th⟩ := new_row wr 58 zeroDid.cells d.cells rfl
              have HD := keepH hd
              have HW2 := keepH hw2
              have HTH := keepH th
              have HC0 := keepH c0
              have HF2 := keepH (HF.out.quiet C2)
              have HRA : Hid (w2.rangeAt wr.heap.size 0 d.cells) := fun j v hv => by rw [cell_of B2]; simpa using hv
              have c5 : w2.cell? ⟨wr.heap.size, 0, none⟩ = some (.int .i64 d.th) := cell_of B2 0
              obtain ⟨q, c, eg, hir⟩ := row_reads (HF2.out.row d.th) (sortZ_length _).symm
              have hlk := HF2.out.look (HR.out.wh d (List.mem_of_getElem? hd))
              rw [eg] at hlk
              have hle := stepsOf_le r d.th r.ts.length
              have hsl := sortZ_length (stepsOf r d.th r.ts.length)
              have HWI := keepH (p_within q c (sortZ (stepsOf r d.th r.ts.length)) d w2 hir (fun a b x y => sortZ_rises _ a b x y) (by omega))
              have ewi := wi_in (sortZ (stepsOf r d.th r.ts.length)) d
              rw [inN_perm (sortZ_perm _) d] at ewi
              obtain ⟨z, hz⟩ : ∃ z, z = wiN (sortZ (stepsOf r d.th r.ts.length)) d := ⟨_, rfl⟩
              obtain ⟨m, hm⟩ : ∃ m, m = ((oneN (inN (stepsOf r d.th r.ts.length) d) : Nat) : Int) := ⟨_, rfl⟩
              have emz : max z 1 = m := by rw [hz, hm]; exact ewi
              obtain ⟨L, hL⟩ : ∃ L, L = (sortZ (stepsOf r d.th r.ts.length)).length := ⟨_, rfl⟩
              rw [← hL] at hlk
              have HL := keepH hL
              have HZ := keepH hz
              have HM := keepH hm
              rw [e]
              clear hd hw2 th c0 hb e B2 C2 hir ewi hz hm hL hle hsl eg
              by_cases hw : z < 1
              · obtain rfl : m = 1 := by omega
                go_wp2_with (first
                  | (refine wpList_load_mid rfl 58 (.tmp 46) rfl bk (off + i * 22) rfl d.cells _ HC0.out Try.underlying58 rfl (did_size d) ?_)
                  | (refine wpList_store_to rfl 58 (.tmp 10) (.tmp 47) rfl wr.heap.size 0 d.cells.toArray rfl rfl HTH.out (did_size' d) (did_one d) w2 HW2.out ?_; clear HW2 HTH)
                  | (refine wpList_load_mid rfl 58 (.tmp 10) rfl wr.heap.size 0 rfl d.cells _ HRA.out Try.underlying58 rfl (did_size d) ?_)
                  | fail)
                rw [HL.out]
                refine HWI.out.mono ?_
                rintro e w3 ⟨rfl, C3⟩
                rw [← HZ.out]
                have HL3 := keepH (HF2.out.quiet C3)
                clear C3 hlk c5
                go_wp2_with (first
                    | (at_builtin; refine wpList_append_own_at _ rfl _ _ 24 rfl (W.heap.size + 2) 3 i0 (.int .i64 0) 1 8 Try.underlying24 hi hz0 hz1 hz2 rfl (by decide) _ _ _ rfl (HL3.out.out.alloc _) ⟨w3.heap.size, 0, none⟩ 1 1 [.int .i64 1] rfl rfl (cell_one_new _ _ _) (ints_oneCell .i64 [1]) (by unfold maxLen; omega) (by omega) (by have := HL3.out.own.lt; simp; omega) ?_; intro v' w6 hown' hgrow hnil hloc)
                    | fail)
                have HL6 := keepH ((HL3.out.quiet ((Chg.refl _ _).alloc _)).add (by rw [ownL_more HD.out, ← HM.out]) hown' hgrow hloc)
                clear hown' hgrow hnil hloc
                go_roundw
                case rel => exact ⟨i + 1, by omega, by first | rfl | go_num, HL6⟩
                case measure => simp [intOf]; omega
              · obtain rfl : m = z := by omega
                go_wp2_with (first
                  | (refine wpList_load_mid rfl 58 (.tmp 46) rfl bk (off + i * 22) rfl d.cells _ HC0.out Try.underlying58 rfl (did_size d) ?_)
                  | (refine wpList_store_to rfl 58 (.tmp 10) (.tmp 47) rfl wr.heap.size 0 d.cells.toArray rfl rfl HTH.out (did_size' d) (did_one d) w2 HW2.out ?_; clear HW2 HTH)
                  | (refine wpList_load_mid rfl 58 (.tmp 10) rfl wr.heap.size 0 rfl d.cells _ HRA.out Try.underlying58 rfl (did_size d) ?_)
                  | fail)
                rw [HL.out]
                refine HWI.out.mono ?_
                rintro e w3 ⟨rfl, C3⟩
                rw [← HZ.out]
                have HL3 := keepH (HF2.out.quiet C3)
                clear C3 hlk c5
                go_wp2_with (first
                    | (at_builtin; refine wpList_append_own_at _ rfl _ _ 24 rfl (W.heap.size + 2) 3 i0 (.int .i64 0) 1 8 Try.underlying24 hi hz0 hz1 hz2 rfl (by decide) _ _ _ rfl (HL3.out.out.alloc _) ⟨w3.heap.size, 0, none⟩ 1 1 [.int .i64 m] rfl rfl (cell_one_new _ _ _) (ints_oneCell .i64 [m]) (by unfold maxLen; omega) (by omega) (by have := HL3.out.own.lt; simp; omega) ?_; intro v' w6 hown' hgrow hnil hloc)
                    | fail)
                have HL6 := keepH ((HL3.out.quiet ((Chg.refl _ _).alloc _)).add (by rw [ownL_more HD.out, ← HM.out]) hown' hgrow hloc)
                clear hown' hgrow hnil hloc
                go_roundw
                case rel => exact ⟨i + 1, by omega, by first | rfl | go_num, HL6⟩
                case measure => simp [intOf]; omega
            · obtain rfl : i = r.ds.length := by omega
              have t2 : ¬ (r.ds.length : Int) < (r.ds.length : Int) := by omega
              go_wp2_with fail
              go_ret
              exact ⟨_, rfl, HF.out.out, HF.out.chg⟩
        · intro x c kl y ps w1 cnt1 hk1 hlx hv1 hat hrg1 hlt1 hg1 hs1 hen
          obtain ⟨x', ex, rfl, hwx⟩ := Maps.keyOf_int_inv Try.underlying3 hk1
          cases ex
          have ec : c = g x := by
            have e1 := hat (.held nilV)
            rw [HQ.out.val x] at e1
            unfold heldR at hv1
            simp only [Option.some.injEq, Prod.mk.injEq] at hv1
            rw [← hv1.1] at e1
            simpa using e1.symm
          subst ec
          have r1 := HQ.out.next hg1 x
          rw [if_pos hlx] at r1
          have HS := keepH (sort_ints (g x) (stepsOf r x r.ts.length) w1 (rowB_zero r1) (by have := stepsOf_le r x r.ts.length; omega))
          have HG1 := keepH hg1
          have HRG := keepH hrg1
          have HLT := keepH hlt1
          clear hk1 hlx hv1 hat hrg1 hlt1 hg1 hs1 r1
          go_wp2_with fail
          refine HS.out.mono ?_
          rintro e w2 ⟨rfl, hs2, C2⟩
          have HN := keepH (HQ.out.sorted HG1.out HRG.out hs2 C2)
          clear hs2 C2 hen
          go_wp2_with fail
          go_roundw
          case rel => exact ⟨_, _, HN⟩
          case measure => rw [HN.out.rg.left_eq, HQ.out.rg.left_eq]; exact HLT.out
end Go.Proofs.Ytmjjaadliebgoaa
