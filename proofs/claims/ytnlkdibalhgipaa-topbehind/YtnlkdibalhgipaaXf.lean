/- TopBehind: the whole walk. -/
import Derived.Test.YtnlkdibalhgipaaXe
namespace Go.Proofs.Ytnlkdibalhgipaa
open Go.RowKit Go.Maps
set_option linter.unusedVariables false

theorem PRow.base {W : World} {B B' : Nat} {v : Value} {l : List (Nat × Nat)} (h : PRow W B v l) (hb : B' ≤ B) : PRow W B' v l := by
  obtain ⟨⟨h0, h1⟩, h2⟩ := h
  refine ⟨⟨h0, ?_⟩, h2⟩
  rcases h1 with h1 | ⟨g, cap, cur, rfl, hB, hg, r⟩
  · exact .inl h1
  · exact .inr ⟨g, cap, cur, rfl, Nat.le_trans hb hB, hg, r⟩
set_option maxRecDepth 100000 in
theorem m_contentR {W : World} {m nw hd mu : Nat} {f h : Nat → Option Nat} {g : Nat → Nat → Option Nat} {n : Nat} (H : MoAt W m nw hd mu f h g n) (hn : n ≤ 8796093022000) :
    Calls Try.prog 6 #[.pointer (some ⟨m, 0, none⟩)] W fun e W' => (∃ p c l, e = .returned (.slice p l.length c) ∧ Lists f 0 18446744073709551615 l ∧ PRow W' W.heap.size (.slice p l.length c) l) ∧ Chg (fun _ => False) W W' := by
  have HB := keepH (c_all H.now hn)
  have c1 : W.cell? ⟨m, 1, none⟩ = some (.map (some nw)) := cell_of H.md 1
  clear H
  go_enter Try.func6, Try.ntmps6
  go_wp2_with fail
  refine HB.out.mono ?_
  rintro e w1 ⟨⟨v, l, rfl, h1, h2, h3⟩, h4⟩
  have h2' := h2
  obtain ⟨p, c, rfl, hP, hB⟩ := h2.slice
  have HZ : Hid (Lists f 0 18446744073709551615 l ∧ PRow w1 W.heap.size (.slice p l.length c) l) := ⟨h1, h2'⟩
  have HC := keepH h4
  clear h1 h2 h2' h3 h4 hP hB
  go_wp2_with fail
  go_ret
  exact ⟨⟨p, c, l, rfl, HZ.out⟩, HC.out⟩
theorem Mid.split {W wx : World} {m nw hd b i : Nat} {v5 v6 : Value} {o : OpP} {e : Int} (H : Mid W wx m nw hd b i v5 v6 o e) :
    (e = 0 ∧ o.kd = 5 ∧ ∃ f h g q sv cl, TB W wx m nw hd b f (updO h (i + 1) (some cl)) (setG g cl f) q sv (i + 1) i i i v5 v6 ∧ (∀ k, q k = (h k).isSome) ∧ ∀ k bk, h k = some bk → 1 ≤ k ∧ k ≤ i)
    ∨ (e = 0 ∧ o.kd = 6 ∧ ∃ f h g q sv, TB W wx m nw hd b f (updO h o.hk none) g q sv (i + 1) i i i v5 v6 ∧ (∀ k, q k = (h k).isSome) ∧ ∀ k bk, h k = some bk → 1 ≤ k ∧ k ≤ i)
    ∨ (o.kd ≠ 5 ∧ (o.kd = 6 → e ≠ 0) ∧ ∃ f h g q sv, TB W wx m nw hd b f h g q sv (i + 1) i i i v5 v6 ∧ (∀ k, q k = (h k).isSome) ∧ ∀ k bk, h k = some bk → 1 ≤ k ∧ k ≤ i) := by
  cases H with
  | snap f h g q sv cl hk hb hq hi => exact .inl ⟨rfl, hk, f, h, g, q, sv, cl, hb, hq, hi⟩
  | rel f h g q sv hk hb hq hi => exact .inr (.inl ⟨rfl, hk, f, h, g, q, sv, hb, hq, hi⟩)
  | other e f h g q sv hk he hb hq hi => exact .inr (.inr ⟨hk, he, f, h, g, q, sv, hb, hq, hi⟩)
/-- Ahead of the two appends of a round. -/
def TE (W wr : World) (m nw hd b i : Nat) (v5 v6 : Value) (i5 i6 : Nat) : Prop := ∃ f h g q sv, TB W wr m nw hd b f h g q sv (i + 1) (i + 1) i5 i6 v5 v6 ∧ (∀ k, q k = (h k).isSome) ∧ ∀ k bk, h k = some bk → 1 ≤ k ∧ k ≤ i + 1
theorem TE.end {W wr : World} {m nw hd b i : Nat} {v5 v6 : Value} (H : TE W wr m nw hd b i v5 v6 (i + 1) (i + 1)) : TR W wr m nw hd b (i + 1) v5 v6 := by
  obtain ⟨f, h, g, q, sv, h1, h2, h3⟩ := H
  exact ⟨f, h, g, q, sv, h1, h2, h3⟩
theorem spB_cells (i : Nat) : (spB i).cells = [.int .i64 ((i : Int) % 3), .int .i64 ((i : Int) / 3), .int .i64 (2 * (i : Int)), .int .i64 (2 * (i : Int) + 1)] := by simp [spB, Sp.cells]
theorem TE.span {W wr wx : World} {m nw hd b i : Nat} {v5 v5' v6 : Value} {o : Obj} (H : TE W wr m nw hd b i v5 v6 i i) (hr : wx.ownsRow W.heap.size 43 4 v5' (i + 1) (flS (spsB i) ++ [.int .i64 ((i : Int) % 3), .int .i64 ((i : Int) / 3), .int .i64 (2 * (i : Int)), .int .i64 (2 * (i : Int) + 1)])) (hg : (wr.alloc o).grownBy wx v5.ownBlock) : TE W wx m nw hd b i v5' v6 (i + 1) i := by
  obtain ⟨f, h, g, q, sv, h1, h2, h3⟩ := H
  rw [← spB_cells] at hr
  exact ⟨f, h, g, q, sv, h1.span hr hg, h2, h3⟩
theorem TE.num {W wr wx : World} {m nw hd b i : Nat} {v5 v6 v6' : Value} {o : Obj} (H : TE W wr m nw hd b i v5 v6 (i + 1) i) (hr : wx.ownsRow W.heap.size 3 1 v6' (i + 1) ((ordB i).map (Value.int .i64) ++ [.int .i64 (i : Int)])) (hg : (wr.alloc o).grownBy wx v6.ownBlock) : TE W wx m nw hd b i v5 v6' (i + 1) (i + 1) := by
  obtain ⟨f, h, g, q, sv, h1, h2, h3⟩ := H
  exact ⟨f, h, g, q, sv, h1.num hr hg, h2, h3⟩
theorem infoSp : (Try.prog.info? 43).map (fun i => (i.zero, i.size, i.bytes)) = some (some (.agg #[.int .i64 0, .int .i64 0, .int .i64 0, .int .i64 0]), 4, 32) := by kernel_rfl
theorem TR.zero {W w1 : World} (M : MoAt w1 (W.heap.size + 2) W.heap.size (W.heap.size + 1) 4 (fun _ => none) (fun _ => none) (fun _ _ => none) 0) (C : Chg (fun _ => False) W w1) : TR W (w1.alloc (.map #[] 0)) (W.heap.size + 2) W.heap.size (W.heap.size + 1) w1.heap.size 0 (.slice none 0 0) (.slice none 0 0) := by
  have bl := M.blk
  have z := C.size
  exact ⟨fun _ => none, fun _ => none, fun _ _ => none, fun _ => false, fun _ => .slice none 0 0, ⟨M.quiet ((Chg.refl _ _).alloc _), HM.made _ _, fun k bk hk => (by cases hk), ⟨rfl, .inl ⟨rfl, rfl⟩⟩, ⟨rfl, .inl ⟨rfl, rfl⟩⟩, by omega, by omega, fun k bk hk => (by cases hk), C.alloc _⟩, fun k => rfl, fun k bk hk => (by cases hk)⟩
theorem OpsAt.bk {W : World} {p : Option Addr} {l : List OpI} (h : OpsAt W p l) {bk off : Nat} (hp : p = some ⟨bk, off, none⟩) (hl : l ≠ []) : bk < W.heap.size := by
  rcases h with h | ⟨bk', off', e, hb, _⟩
  · exact absurd h hl
  · rw [hp] at e
    injection e with e
    injection e with e
    omega
set_option maxRecDepth 100000 in
set_option maxHeartbeats 8000000 in
theorem behind_walk (p : Option Addr) (c : Nat) (l : List OpI) (W : World) (hO : OpsAt W p l) :
    Calls Try.prog 3 #[.slice p l.length c] W fun e W' => e = .returned (.bool true) ∧ Chg (fun _ => False) W W' := by
  have HO := keepH hO
  clear hO
  have hmm := @run_makeMap Try.prog
  obtain ⟨i0, hi0, hz0, hz1, hz2⟩ := info_parts infoIx
  obtain ⟨j0, hj, hy0, hy1, hy2⟩ := info_parts infoSp
  by_cases hbig : 2000 < l.length
  · have t1 : (2000 : Int) < (l.length : Int) := by omega
    go_enter Try.func3, Try.ntmps3
    go_wp2_with fail
    refine (new_q W).mono ?_
    rintro e w1 ⟨rfl, M1, C1⟩
    have HC := keepH C1
    clear M1 C1
    go_wp2_with fail
    go_ret
    exact ⟨by simp, HC.out⟩
  · have t1 : ¬ (2000 : Int) < (l.length : Int) := by omega
    go_enter Try.func3, Try.ntmps3
    go_wp2_with fail
    refine (new_q W).mono ?_
    rintro e w1 ⟨rfl, M1, C1⟩
    obtain ⟨w2, hw2⟩ : ∃ w2, w2 = w1.alloc (.map #[] 0) := ⟨_, rfl⟩
    have HT := TR.zero M1 C1
    rw [← hw2] at HT
    obtain ⟨m, hm⟩ : ∃ m, m = W.heap.size + 2 := ⟨_, rfl⟩
    obtain ⟨hd, hhd⟩ : ∃ hd, hd = W.heap.size + 1 := ⟨_, rfl⟩
    obtain ⟨nw, hnw⟩ : ∃ nw, nw = W.heap.size := ⟨_, rfl⟩
    obtain ⟨b, hb⟩ : ∃ b, b = w1.heap.size := ⟨_, rfl⟩
    have HT0 : Hid (TR W w2 m nw hd b 0 (.slice none 0 0) (.slice none 0 0)) := by rw [hm, hhd, hnw, hb]; exact HT
    rw [← hm]
    clear M1 C1 HT hm hhd hnw
    go_upto_region 7 with fail
    rw [← hw2, ← hb]
    clear hw2 hb hmm
    go_wp2_with fail
    go_loopw [5, 6, 8] (fun s5 s6 s wr => ∃ i : Nat, i ≤ l.length ∧ s = .int .i64 (i : Int) ∧ Hid (TR W wr m nw hd b i s5 s6)) (fun _ _ s _ => l.length - natOf s)
    case atStart => exact ⟨0, Nat.zero_le _, rfl, HT0⟩
    case round =>
      clear HT0
      obtain ⟨i, hil, rfl, HX⟩ := hrel
      by_cases hlt : i < l.length
      · have q1 : (i : Int) < (l.length : Int) := by omega
        obtain ⟨x, hx⟩ : ∃ x, l[i]? = some x := ⟨l[i], List.getElem?_eq_getElem hlt⟩
        obtain ⟨hn, hhn⟩ : ∃ hn, hn = i + 1 := ⟨_, rfl⟩
        have HCW : Hid (Chg (fun _ => False) W wr) := by obtain ⟨f, h, g, q, sv, hB, _⟩ := HX.out.ex; exact hB.chg
        obtain ⟨bk, off, rfl, hok, hcs0⟩ := HO.out.get (Chg.refl _ _) hx
        have HKC : Hid (∀ w', Chg (fun _ => False) W w' → ∀ j v, x.cs[j]? = some v → w'.cell? ⟨bk, off + i * 11 + j, none⟩ = some v) := fun w' cw j v hj => cell_chg cw (hcs0 j v hj) (fun x => x)
        have hcs := HKC.out wr HCW.out
        have c0 := hcs 0 _ rfl
        have c1 := hcs 1 _ rfl
        have c2 := hcs 2 _ rfl
        have c3 := hcs 3 _ rfl
        have c4 := hcs 4 _ rfl
        have c5 := hcs 5 _ rfl
        have c6 := hcs 6 _ rfl
        have c7 := hcs 7 _ rfl
        have c8 := hcs 8 _ rfl
        have c9 := hcs 9 _ rfl
        have c10 := hcs 10 _ rfl
        rw [Nat.add_zero] at c0
        have HD := keepH (HX.out.call hok (Chg.refl _ _) (by omega))
        rw [← hhn] at HD
        have u1 : IntKind.u64.wrap (i : Int) = (i : Int) := by rw [IntKind.wrap_u64]; omega
        have u2 : IntKind.u64.wrap ((i : Int) + 1) = (hn : Int) := by rw [IntKind.wrap_u64]; omega
        have HHN := keepH hhn
        have HOK := keepH hok
        have hi2 : i ≤ 1999 := by omega
        clear hx hcs hcs0 hok hhn HX HCW
        go_wp2_with fail
        refine HD.out.mono ?_
        rintro e w4 ⟨⟨A, pa, ca, rfl, hMid⟩, C4⟩
        obtain ⟨ae, af, ax, ad, ah, al, an⟩ := A
        unfold ansC
        simp only at hMid ⊢
        obtain ⟨w5, hw5⟩ : ∃ w5, w5 = w4.alloc (.cells #[.int .i64 ae, .bool af, .int .u64 (ax : Int), .bool ad, .int .u64 (ah : Int), .slice pa al.length ca, .int .u64 (an : Int)] 33) := ⟨_, rfl⟩
        have C5 : Chg (fun _ => False) w4 w5 := by rw [hw5]; exact (Chg.refl _ _).alloc _
        have HA5 : Hid (w5.heap[w4.heap.size]? = some (.cells #[.int .i64 ae, .bool af, .int .u64 (ax : Int), .bool ad, .int .u64 (ah : Int), .slice pa al.length ca, .int .u64 (an : Int)] 33 (0, 0))) := by rw [hw5]; exact heap_alloc_new _ _
        have HMid := keepH hMid.split
        have HC5 := keepH C5
        clear hMid C4 C5 c0 c1 c2 c3 c4 c5 c6 c7 c8 c9 c10 u1 u2 HD
        go_upto_region 12 with fail
        rw [← hw5]
        clear hw5
        have t0 : w5.cell? ⟨w4.heap.size, 0, none⟩ = some (.int .i64 ae) := cell_of HA5.out 0
        rcases HMid.out with ⟨rfl, hk5, f, h, g, q, sv, cl, hB, hq, hi⟩ | ⟨rfl, hk6, f, h, g, q, sv, hB, hq, hi⟩ | ⟨hk5, hk6, f, h, g, q, sv, hB, hq, hi⟩
        · have HB5 := keepH (hB.quiet HC5.out)
          have c0 := HKC.out w5 HB5.out.chg 0 _ rfl
          rw [Nat.add_zero] at c0
          have z5 : (x.o.kd == 5) = true := by simp [hk5]
          have HQ := keepH hq
          have HI := keepH hi
          have HK5 := keepH hk5
          clear hB hq hi hk5 HMid HC5
          go_wp2_with fail
          refine (m_contentR HB5.out.mo (by omega)).mono ?_
          rintro e w6 ⟨⟨pc, cc, lc, rfl, hL, hP⟩, C6⟩
          have HB6 := keepH (HB5.out.quiet C6)
          have hqn : q hn = false := by
            rw [HQ.out, HHN.out]
            cases e : h (i + 1) with
            | none => rfl
            | some bk => have := HI.out _ _ e; omega
          obtain ⟨w7, hput, hm7, C7⟩ := HM.put HB6.out.hm (by unfold maxLen; omega) (k := hn) (by have := HHN.out; omega) hqn pc lc.length cc
          have HE : Hid (TE W w7 m nw hd b i u5 u6 i i) := by
            refine ⟨f, updO h (i + 1) (some cl), setG g cl f, setQ q hn true, setV sv hn (.slice pc lc.length cc), HB6.out.mapped hm7 C7 (fun k bk hk hqk => ?_), fun k => ?_, fun k bk hk => ?_⟩
            · by_cases e : k = hn
              · subst e
                rw [← HHN.out, updO_same] at hk
                injection hk with hk
                subst hk
                rw [setV_same, setG_same]
                exact ⟨lc, hP.base HB5.out.chg.size, hL⟩
              · rw [setQ_other _ _ e] at hqk
                rw [setV_other _ _ e]
                exact HB6.out.pr k bk hk hqk
            · by_cases e : k = hn
              · subst e; rw [setQ_same, ← HHN.out, updO_same]; rfl
              · rw [setQ_other _ _ e, ← HHN.out, updO_other _ _ e]; exact HQ.out k
            · by_cases e : k = i + 1
              · omega
              · rw [updO_other _ _ e] at hk; have := HI.out k bk hk; omega
          have hch := HE.out
          obtain ⟨_, _, _, _, _, hTB, _, _⟩ := hch
          have c0' := HKC.out w7 hTB.chg 0 _ rfl
          rw [Nat.add_zero] at c0'
          have z6 : (x.o.kd == 6) = false := by simp [HK5.out]
          clear hTB hm7 C7 C6 hqn hL hP HB6 HB5 HQ HI c0 t0
          have hr5 : w7.ownsRow W.heap.size 43 4 u5 i (flS (spsB i)) := by obtain ⟨_, _, _, _, _, hTB, _, _⟩ := HE.out; exact hTB.r5
          have hsz : W.heap.size ≤ w7.heap.size := by obtain ⟨_, _, _, _, _, hTB, _, _⟩ := HE.out; exact hTB.chg.size
          go_upto_region 16 with fail
          go_upto_region 17 with (at_builtin; refine wpList_append_own_at _ rfl _ _ 27 rfl W.heap.size 43 j0 (.agg #[.int .i64 0, .int .i64 0, .int .i64 0, .int .i64 0]) 4 32 Try.underlying27 hj hy0 hy1 hy2 rfl (by decide) _ _ _ rfl (hr5.alloc _) ⟨_, 0, none⟩ 1 1 [.int .i64 ((i : Int) % 3), .int .i64 ((i : Int) / 3), .int .i64 (2 * (i : Int)), .int .i64 (2 * (i : Int) + 1)] rfl rfl (cells_new _ _ rfl _ _) (by intro u hu; simp at hu; rcases hu with rfl | rfl | rfl | rfl <;> rfl) (by unfold maxLen; omega) (by omega) (by simp; omega) ?_; intro v8 w8 r1 r2 r3 r4; have HE8 := keepH (HE.out.span r1 r2); clear r1 r2 r3 r4)
          clear hr5 hsz HE
          have hr6 : w8.ownsRow W.heap.size 3 1 u6 i ((ordB i).map (Value.int .i64)) := by obtain ⟨_, _, _, _, _, hTB, _, _⟩ := HE8.out; exact hTB.r6
          have hsz : W.heap.size ≤ w8.heap.size := by obtain ⟨_, _, _, _, _, hTB, _, _⟩ := HE8.out; exact hTB.chg.size
          go_wp2_with (at_builtin; refine wpList_append_own_at _ rfl _ _ 28 rfl W.heap.size 3 i0 (.int .i64 0) 1 8 Try.underlying28 hi0 hz0 hz1 hz2 rfl (by decide) _ _ _ rfl (hr6.alloc _) ⟨_, 0, none⟩ 1 1 [.int .i64 (i : Int)] rfl rfl (cells_new _ _ rfl _ _) (by intro u hu; simp at hu; subst hu; rfl) (by unfold maxLen; omega) (by omega) (by simp; omega) ?_; intro v9 w9 r1 r2 r3 r4; have HE9 := keepH (HE8.out.num r1 r2); clear r1 r2 r3 r4)
          go_roundw
          case rel => exact ⟨i + 1, by omega, by first | rfl | go_num, HE9.out.end⟩
          case measure => exact meas hlt
        · have HB5 := keepH (hB.quiet HC5.out)
          have c0 := HKC.out w5 HB5.out.chg 0 _ rfl
          have c4 := HKC.out w5 HB5.out.chg 4 _ rfl
          rw [Nat.add_zero] at c0
          have z5 : (x.o.kd == 5) = false := by simp [hk6]
          have z6 : (x.o.kd == 6) = true := by simp [hk6]
          obtain ⟨w7, hdel, hm7, C7⟩ := HM.del HB5.out.hm HOK.out.ok.hk 0
          have HE : Hid (TE W w7 m nw hd b i u5 u6 i i) := by
            refine ⟨f, updO h x.o.hk none, g, setQ q x.o.hk false, sv, (HB5.out.mapped hm7 C7 (fun k bk hk hqk => ?_)).mono (Nat.le_succ i), fun k => ?_, fun k bk hk => ?_⟩
            · by_cases e : k = x.o.hk
              · subst e; rw [setQ_same] at hqk; cases hqk
              · rw [setQ_other _ _ e] at hqk
                exact HB5.out.pr k bk hk hqk
            · by_cases e : k = x.o.hk
              · subst e; rw [setQ_same, updO_same]; rfl
              · rw [setQ_other _ _ e, updO_other _ _ e]; exact hq k
            · by_cases e : k = x.o.hk
              · subst e; rw [updO_same] at hk; cases hk
              · rw [updO_other _ _ e] at hk; have := hi k bk hk; omega
          clear hB hq hi hk6 HMid HC5 hm7 C7 HB5
          have hr5 : w7.ownsRow W.heap.size 43 4 u5 i (flS (spsB i)) := by obtain ⟨_, _, _, _, _, hTB, _, _⟩ := HE.out; exact hTB.r5
          have hsz : W.heap.size ≤ w7.heap.size := by obtain ⟨_, _, _, _, _, hTB, _, _⟩ := HE.out; exact hTB.chg.size
          go_upto_region 16 with fail
          go_upto_region 17 with (at_builtin; refine wpList_append_own_at _ rfl _ _ 27 rfl W.heap.size 43 j0 (.agg #[.int .i64 0, .int .i64 0, .int .i64 0, .int .i64 0]) 4 32 Try.underlying27 hj hy0 hy1 hy2 rfl (by decide) _ _ _ rfl (hr5.alloc _) ⟨_, 0, none⟩ 1 1 [.int .i64 ((i : Int) % 3), .int .i64 ((i : Int) / 3), .int .i64 (2 * (i : Int)), .int .i64 (2 * (i : Int) + 1)] rfl rfl (cells_new _ _ rfl _ _) (by intro u hu; simp at hu; rcases hu with rfl | rfl | rfl | rfl <;> rfl) (by unfold maxLen; omega) (by omega) (by simp; omega) ?_; intro v8 w8 r1 r2 r3 r4; have HE8 := keepH (HE.out.span r1 r2); clear r1 r2 r3 r4)
          clear hr5 hsz HE
          have hr6 : w8.ownsRow W.heap.size 3 1 u6 i ((ordB i).map (Value.int .i64)) := by obtain ⟨_, _, _, _, _, hTB, _, _⟩ := HE8.out; exact hTB.r6
          have hsz : W.heap.size ≤ w8.heap.size := by obtain ⟨_, _, _, _, _, hTB, _, _⟩ := HE8.out; exact hTB.chg.size
          go_wp2_with (at_builtin; refine wpList_append_own_at _ rfl _ _ 28 rfl W.heap.size 3 i0 (.int .i64 0) 1 8 Try.underlying28 hi0 hz0 hz1 hz2 rfl (by decide) _ _ _ rfl (hr6.alloc _) ⟨_, 0, none⟩ 1 1 [.int .i64 (i : Int)] rfl rfl (cells_new _ _ rfl _ _) (by intro u hu; simp at hu; subst hu; rfl) (by unfold maxLen; omega) (by omega) (by simp; omega) ?_; intro v9 w9 r1 r2 r3 r4; have HE9 := keepH (HE8.out.num r1 r2); clear r1 r2 r3 r4)
          go_roundw
          case rel => exact ⟨i + 1, by omega, by first | rfl | go_num, HE9.out.end⟩
          case measure => exact meas hlt
        · have HE : Hid (TE W w5 m nw hd b i u5 u6 i i) := ⟨f, h, g, q, sv, (hB.quiet HC5.out).mono (Nat.le_succ i), hq, fun k bk hk => by have := hi k bk hk; omega⟩
          have c0 := HKC.out w5 (hB.quiet HC5.out).chg 0 _ rfl
          rw [Nat.add_zero] at c0
          have z5 : (x.o.kd == 5) = false := by simpa using hk5
          by_cases q6 : x.o.kd = 6
          · have z6 : (x.o.kd == 6) = true := by simpa using q6
            have z0 : (ae == 0) = false := by simpa using hk6 q6
            clear hB hq hi hk5 hk6 q6 HMid HC5
            have hr5 : w5.ownsRow W.heap.size 43 4 u5 i (flS (spsB i)) := by obtain ⟨_, _, _, _, _, hTB, _, _⟩ := HE.out; exact hTB.r5
            have hsz : W.heap.size ≤ w5.heap.size := by obtain ⟨_, _, _, _, _, hTB, _, _⟩ := HE.out; exact hTB.chg.size
            go_upto_region 16 with fail
            go_upto_region 17 with (at_builtin; refine wpList_append_own_at _ rfl _ _ 27 rfl W.heap.size 43 j0 (.agg #[.int .i64 0, .int .i64 0, .int .i64 0, .int .i64 0]) 4 32 Try.underlying27 hj hy0 hy1 hy2 rfl (by decide) _ _ _ rfl (hr5.alloc _) ⟨_, 0, none⟩ 1 1 [.int .i64 ((i : Int) % 3), .int .i64 ((i : Int) / 3), .int .i64 (2 * (i : Int)), .int .i64 (2 * (i : Int) + 1)] rfl rfl (cells_new _ _ rfl _ _) (by intro u hu; simp at hu; rcases hu with rfl | rfl | rfl | rfl <;> rfl) (by unfold maxLen; omega) (by omega) (by simp; omega) ?_; intro v8 w8 r1 r2 r3 r4; have HE8 := keepH (HE.out.span r1 r2); clear r1 r2 r3 r4)
            clear hr5 hsz HE
            have hr6 : w8.ownsRow W.heap.size 3 1 u6 i ((ordB i).map (Value.int .i64)) := by obtain ⟨_, _, _, _, _, hTB, _, _⟩ := HE8.out; exact hTB.r6
            have hsz : W.heap.size ≤ w8.heap.size := by obtain ⟨_, _, _, _, _, hTB, _, _⟩ := HE8.out; exact hTB.chg.size
            go_wp2_with (at_builtin; refine wpList_append_own_at _ rfl _ _ 28 rfl W.heap.size 3 i0 (.int .i64 0) 1 8 Try.underlying28 hi0 hz0 hz1 hz2 rfl (by decide) _ _ _ rfl (hr6.alloc _) ⟨_, 0, none⟩ 1 1 [.int .i64 (i : Int)] rfl rfl (cells_new _ _ rfl _ _) (by intro u hu; simp at hu; subst hu; rfl) (by unfold maxLen; omega) (by omega) (by simp; omega) ?_; intro v9 w9 r1 r2 r3 r4; have HE9 := keepH (HE8.out.num r1 r2); clear r1 r2 r3 r4)
            go_roundw
            case rel => exact ⟨i + 1, by omega, by first | rfl | go_num, HE9.out.end⟩
            case measure => exact meas hlt
          · have z6 : (x.o.kd == 6) = false := by simpa using q6
            clear hB hq hi hk5 hk6 q6 HMid HC5
            have hr5 : w5.ownsRow W.heap.size 43 4 u5 i (flS (spsB i)) := by obtain ⟨_, _, _, _, _, hTB, _, _⟩ := HE.out; exact hTB.r5
            have hsz : W.heap.size ≤ w5.heap.size := by obtain ⟨_, _, _, _, _, hTB, _, _⟩ := HE.out; exact hTB.chg.size
            go_upto_region 16 with fail
            go_upto_region 17 with (at_builtin; refine wpList_append_own_at _ rfl _ _ 27 rfl W.heap.size 43 j0 (.agg #[.int .i64 0, .int .i64 0, .int .i64 0, .int .i64 0]) 4 32 Try.underlying27 hj hy0 hy1 hy2 rfl (by decide) _ _ _ rfl (hr5.alloc _) ⟨_, 0, none⟩ 1 1 [.int .i64 ((i : Int) % 3), .int .i64 ((i : Int) / 3), .int .i64 (2 * (i : Int)), .int .i64 (2 * (i : Int) + 1)] rfl rfl (cells_new _ _ rfl _ _) (by intro u hu; simp at hu; rcases hu with rfl | rfl | rfl | rfl <;> rfl) (by unfold maxLen; omega) (by omega) (by simp; omega) ?_; intro v8 w8 r1 r2 r3 r4; have HE8 := keepH (HE.out.span r1 r2); clear r1 r2 r3 r4)
            clear hr5 hsz HE
            have hr6 : w8.ownsRow W.heap.size 3 1 u6 i ((ordB i).map (Value.int .i64)) := by obtain ⟨_, _, _, _, _, hTB, _, _⟩ := HE8.out; exact hTB.r6
            have hsz : W.heap.size ≤ w8.heap.size := by obtain ⟨_, _, _, _, _, hTB, _, _⟩ := HE8.out; exact hTB.chg.size
            go_wp2_with (at_builtin; refine wpList_append_own_at _ rfl _ _ 28 rfl W.heap.size 3 i0 (.int .i64 0) 1 8 Try.underlying28 hi0 hz0 hz1 hz2 rfl (by decide) _ _ _ rfl (hr6.alloc _) ⟨_, 0, none⟩ 1 1 [.int .i64 (i : Int)] rfl rfl (cells_new _ _ rfl _ _) (by intro u hu; simp at hu; subst hu; rfl) (by unfold maxLen; omega) (by omega) (by simp; omega) ?_; intro v9 w9 r1 r2 r3 r4; have HE9 := keepH (HE8.out.num r1 r2); clear r1 r2 r3 r4)
            go_roundw
            case rel => exact ⟨i + 1, by omega, by first | rfl | go_num, HE9.out.end⟩
            case measure => exact meas hlt
      · have q1 : ¬ (i : Int) < (l.length : Int) := by omega
        obtain rfl : i = l.length := by omega
        clear hlt
        obtain ⟨f, h, g, q, sv, hB, hq, hi⟩ := HX.out.ex
        obtain ⟨p5, c5, e5, hS5⟩ := sreads_of (l := spsB l.length) (by rw [spsB_length]; exact hB.r5)
        obtain ⟨p6, c6, e6, hS6⟩ := ireads_of (l := ordB l.length) (by rw [ordB_length]; exact hB.r6)
        rw [spsB_length] at e5
        rw [ordB_length] at e6
        subst e5 e6
        have HB := keepH hB
        have HQ := keepH hq
        have HI := keepH hi
        have HS5 := keepH hS5
        have HS6 := keepH hS6
        clear hB hq hi HX hS5 hS6
        go_wp2_with fail
        refine (m_handles HB.out.mo (by omega)).mono ?_
        rintro e w3 ⟨⟨v, ss, rfl, hA, hsl, hu⟩, C3⟩
        have hKA : ∃ pk ck, v = .slice pk ss.length ck ∧ KeysAt w3 pk ss := by
          rcases hu with ⟨rfl, rfl⟩ | ⟨gk, ck, rfl, hgk, hR⟩
          · exact ⟨none, 0, rfl, .inl rfl⟩
          · refine ⟨some ⟨gk, 0, none⟩, ck, rfl, .inr ⟨gk, 0, rfl, (by obtain ⟨rest, hb⟩ := hR; exact lt_of hb), fun j k hk => ⟨?_, by rw [Nat.zero_add]; exact hR.cell j k hk⟩⟩⟩
            have hs := (hA.2 k).1 (List.mem_of_getElem? hk)
            obtain ⟨bb, hbb⟩ := Option.isSome_iff_exists.1 hs
            have := HI.out k bb hbb
            omega
        obtain ⟨pk, ck, rfl, hK⟩ := hKA
        have HA := keepH hA
        have HTK : Hid (TB W w3 m nw hd b f h g q sv l.length l.length l.length l.length (.slice p5 l.length c5) (.slice p6 l.length c6) ∧ KeysAt w3 pk ss) := ⟨HB.out.quiet C3, hK⟩
        have HSS : Hid (SReads w3 p5 (spsB l.length) ∧ IReads w3 p6 (ordB l.length)) := ⟨HS5.out.chg C3 (fun _ _ x => x), HS6.out.chg C3 (fun _ _ x => x)⟩
        clear hA hK hu C3 HB HS5 HS6
        go_wp2_with fail
        go_loopw [12] (fun s wr => ∃ j : Nat, j ≤ ss.length ∧ s = .int .i64 (j : Int) ∧ Hid (TB W wr m nw hd b f h g q sv l.length l.length l.length l.length (.slice p5 l.length c5) (.slice p6 l.length c6) ∧ KeysAt wr pk ss ∧ SReads wr p5 (spsB l.length) ∧ IReads wr p6 (ordB l.length))) (fun s _ => ss.length - natOf s)
        case atStart => exact ⟨0, Nat.zero_le _, rfl, ⟨HTK.out.1, HTK.out.2, HSS.out.1, HSS.out.2⟩⟩
        case round =>
          clear HTK HSS
          obtain ⟨j, hjl, rfl, HY⟩ := hrel
          by_cases hjt : j < ss.length
          · have q2 : (j : Int) < (ss.length : Int) := by omega
            obtain ⟨k, hk⟩ : ∃ k, ss[j]? = some k := ⟨ss[j], List.getElem?_eq_getElem hjt⟩
            obtain ⟨bk, off, rfl, hbk, hcs⟩ := HY.out.2.1.resolve_left (by intro e; subst e; simp at hk)
            obtain ⟨hk64, cK⟩ := hcs j k hk
            obtain ⟨bb, hbb⟩ := Option.isSome_iff_exists.1 ((HA.out.2 k).1 (List.mem_of_getElem? hk))
            have hqk : q k = true := by rw [HQ.out, hbb]; rfl
            obtain ⟨lv, hPv, hLv⟩ := HY.out.1.pr k bb hbb hqk
            have hPv' := hPv
            obtain ⟨pv, cv, ev, hPA, hPB⟩ := hPv.slice
            have HHS := keepH (m_heldS HY.out.1.mo (by omega) hk64 hbb)
            have HV : Hid (PairsAt wr pv lv ∧ Lists (g bb) 0 18446744073709551615 lv) := ⟨hPA, hLv⟩
            have HLK : Hid (∀ w', Chg (fun _ => False) wr w' → (Instr.lookup 29 (.map (some b)) (.int .u64 (k : Int)) false).run Try.prog w' = .ok (.slice pv lv.length cv) w') := fun w' cw => by
              have e := HM.look (MapR.chg HY.out.1.hm cw (fun x => x)) hk64 hqk
              rw [ev] at e
              exact e
            have HCK : Hid (∀ w', Chg (fun _ => False) wr w' → w'.cell? ⟨bk, off + j, none⟩ = some (.int .u64 (k : Int))) := fun w' cw => cell_chg cw cK (fun x => x)
            clear hk hcs hbk hbb hqk hPv hPv' hPA hPB ev hLv
            go_wp2_with fail
            refine HHS.out.mono ?_
            rintro e w4 ⟨⟨p4, c4, l4, rfl, hL4, hP4, hn4⟩, C4⟩
            obtain rfl := hL4.unique HV.out.2
            have hlk := HLK.out w4 C4
            have cK4 := HCK.out w4 C4
            have HR := keepH (r_pairs p4 pv c4 cv l4 l4 w4 hP4 (HV.out.1.chg C4) (by omega) (by omega))
            have HY4 : Hid (TB W w4 m nw hd b f h g q sv l.length l.length l.length l.length (.slice p5 l.length c5) (.slice p6 l.length c6) ∧ KeysAt w4 (some ⟨bk, off, none⟩) ss ∧ SReads w4 p5 (spsB l.length) ∧ IReads w4 p6 (ordB l.length)) := ⟨HY.out.1.quiet C4, HY.out.2.1.chg C4 (fun _ _ _ x => x), HY.out.2.2.1.chg C4 (fun _ _ x => x), HY.out.2.2.2.chg C4 (fun _ _ x => x)⟩
            clear hL4 hP4 C4 HY HHS HLK HCK cK HV
            go_wp2_with fail
            refine HR.out.mono ?_
            rintro e w5 ⟨rfl, C5⟩
            have HY5 : Hid (TB W w5 m nw hd b f h g q sv l.length l.length l.length l.length (.slice p5 l.length c5) (.slice p6 l.length c6) ∧ KeysAt w5 (some ⟨bk, off, none⟩) ss ∧ SReads w5 p5 (spsB l.length) ∧ IReads w5 p6 (ordB l.length)) := ⟨HY4.out.1.quiet C5, HY4.out.2.1.chg C5 (fun _ _ _ x => x), HY4.out.2.2.1.chg C5 (fun _ _ x => x), HY4.out.2.2.2.chg C5 (fun _ _ x => x)⟩
            clear C5 HY4 HR hlk cK4
            go_wp2_with fail
            go_roundw
            case rel => exact ⟨j + 1, by omega, by first | rfl | go_num, HY5⟩
            case measure => exact meas hjt
          · have q2 : ¬ (j : Int) < (ss.length : Int) := by omega
            obtain rfl : j = ss.length := by omega
            clear hjt hjl
            have hlen := fun ty => HM.len HY.out.1.hm HA.out.1 (fun x => by rw [HA.out.2 x, HQ.out x]) ty
            obtain ⟨N, hN⟩ : ∃ N, N = l.length := ⟨_, rfl⟩
            have HR := keepH (h_right p5 c5 (spsB l.length) wr HY.out.2.2.1 (spsB_ok (by omega)) (by rw [spsB_length]; omega))
            have HKP : Hid (∀ w', Chg (fun _ => False) wr w' → Calls Try.prog 11 #[.slice p5 l.length c5, .slice p6 l.length c6] w' fun e W' => e = .returned (.bool true) ∧ Chg (fun _ => False) w' W') := fun w' cw => by
              have e := h_keeps p5 p6 c5 c6 (spsB l.length) (ordB l.length) w' (HY.out.2.2.1.chg cw (fun _ _ x => x)) (HY.out.2.2.2.chg cw (fun _ _ x => x)) (by rw [spsB_length]; omega) (by rw [ordB_length]; omega)
              rw [spsB_length, ordB_length] at e
              refine e.mono ?_
              rintro e w2 ⟨v, rfl, ⟨_, rfl⟩ | ⟨hno, _⟩, hc⟩
              · exact ⟨rfl, hc⟩
              · exact absurd keeps_ordB hno
            have HRR : Hid (Calls Try.prog 10 #[.slice p5 l.length c5] wr fun e W' => e = .returned (.int .i64 0) ∧ Chg (fun _ => False) wr W') := by
              have e := HR.out
              rw [spsB_length] at e
              refine e.mono ?_
              rintro e w2 ⟨x, rfl, ⟨_, rfl⟩ | ⟨hno, _⟩, hc⟩
              · exact ⟨rfl, hc⟩
              · exact absurd right_spsB hno
            have HSW : 2 ≤ l.length → Hid (∀ w', Chg (fun _ => False) wr w' → Calls Try.prog 12 #[.slice p6 l.length c6] w' fun e W' => (∃ p c, e = .returned (.slice p l.length c) ∧ IReads W' p (swB l.length)) ∧ Chg (fun _ => False) w' W') := fun h2 w' cw => sw_any (ownsRow_chg HY.out.1.r6 cw (fun _ _ x => x)) h2 (by omega)
            have HKN : 2 ≤ l.length → Hid (∀ w' p7 c7, Chg (fun _ => False) wr w' → IReads w' p7 (swB l.length) → Calls Try.prog 11 #[.slice p5 l.length c5, .slice p7 l.length c7] w' fun e W' => e = .returned (.bool false) ∧ Chg (fun _ => False) w' W') := fun h2 w' p7 c7 cw hi7 => by
              have sl : (swB l.length).length = l.length := by simp [swB, ordB_length]
              have e := h_keeps p5 p7 c5 c7 (spsB l.length) (swB l.length) w' (HY.out.2.2.1.chg cw (fun _ _ x => x)) hi7 (by rw [spsB_length]; omega) (by rw [sl]; omega)
              rw [spsB_length, sl] at e
              refine e.mono ?_
              rintro e w2 ⟨v, rfl, ⟨hye, _⟩ | ⟨_, rfl⟩, hc⟩
              · exact absurd hye (not_keeps_swB h2)
              · exact ⟨rfl, hc⟩
            have HCW : Hid (Chg (fun _ => False) W wr) := HY.out.1.chg
            clear HR HY HA HQ HI
            by_cases h2 : 2 ≤ l.length
            · have t2 : ¬ (l.length : Int) < 2 := by omega
              have HSW' := HSW h2
              have HKN' := HKN h2
              clear HSW HKN h2 hN
              go_wp2_with fail
              refine HRR.out.mono ?_
              rintro e w4 ⟨rfl, C4⟩
              have HC4 := keepH C4
              clear C4
              go_wp2_with fail
              refine (HKP.out w4 HC4.out).mono ?_
              rintro e w5 ⟨rfl, C5⟩
              have HC5 : Hid (Chg (fun _ => False) wr w5) := HC4.out.trans C5 (fun _ _ x => x) (fun _ _ x => x)
              clear C5
              go_wp2_with fail
              refine (HSW'.out w5 HC5.out).mono ?_
              rintro e w6 ⟨⟨p7, c7, rfl, hi7⟩, C6⟩
              have HC6 : Hid (Chg (fun _ => False) wr w6) := HC5.out.trans C6 (fun _ _ x => x) (fun _ _ x => x)
              have HI7 := keepH hi7
              clear C6 hi7
              go_wp2_with fail
              refine (HKN'.out w6 p7 c7 HC6.out HI7.out).mono ?_
              rintro e w7 ⟨rfl, C7⟩
              have HC7 : Hid (Chg (fun _ => False) wr w7) := HC6.out.trans C7 (fun _ _ x => x) (fun _ _ x => x)
              clear C7
              go_wp2_with fail
              go_ret
              exact ⟨by simp, HCW.out.trans HC7.out (fun _ _ x => x) (fun _ _ x => x)⟩
            · have t2 : (l.length : Int) < 2 := by omega
              clear HSW HKN h2 hN
              go_wp2_with fail
              refine HRR.out.mono ?_
              rintro e w4 ⟨rfl, C4⟩
              have HC4 := keepH C4
              clear C4
              go_wp2_with fail
              refine (HKP.out w4 HC4.out).mono ?_
              rintro e w5 ⟨rfl, C5⟩
              have HC5 : Hid (Chg (fun _ => False) wr w5) := HC4.out.trans C5 (fun _ _ x => x) (fun _ _ x => x)
              clear C5
              go_wp2_with fail
              go_ret
              exact ⟨by simp, HCW.out.trans HC5.out (fun _ _ x => x) (fun _ _ x => x)⟩
end Go.Proofs.Ytnlkdibalhgipaa
