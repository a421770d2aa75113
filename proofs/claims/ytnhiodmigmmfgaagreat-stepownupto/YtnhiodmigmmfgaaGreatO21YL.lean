/- A book beside both runners: the law's steps. -/
import Derived.Test.YtnhiodmigmmfgaaGreatO20PK
import Derived.Test.YtnhiodmigmmfgaaGreatO12Yu
import Derived.Test.YtnhiodmigmmfgaaGreatO11YI1
namespace Go.Proofs.YtnhiodmigmmfgaaGreat
open Go.RowKit Go.Shelf
set_option linter.unusedVariables false

def OwnS (W V0 X : World) (ll : List (List PlP)) (p : Option Addr) (c8 : Nat) (c d : Cfg PS) (wb q nm m r b : Nat) (sv : Value) (qv : Nat → Value) (vb : Nat → Nat) (pb : Nat → Nat → Nat) (Bk k1 k2 : Nat) : Prop := ∃ s, DRx ll.length (clOf ll) d s ∧ ∃ v len sl v2 len2 el, HWy W V0 X ll p c8 c s wb q nm m r b sv qv vb pb (Bks Bk k1 v sl k2 v2 el) ∧ BKept2 V0.heap.size X Bk k1 v len sl k2 v2 len2 el ∧ (∀ j, j < k1 → len j ≤ 4398046511000) ∧ (∀ j, j < k2 → len2 j ≤ 4398046511000)
def OwnE (W V0 X : World) (ll : List (List PlP)) (p : Option Addr) (c8 : Nat) (c : Cfg PS) (wb q nm m r b : Nat) (sv : Value) (qv : Nat → Value) (vb : Nat → Nat) (pb : Nat → Nat → Nat) (Bk k1 k2 : Nat) (v' : Value) : Prop := ∃ s, DRx ll.length (clOf ll) c s ∧ ∃ v len sl v2 len2 el, HWy W V0 X ll p c8 c s wb q nm m r b sv qv vb pb (fun k => Bks Bk k1 v sl k2 v2 el k ∨ v'.ownBlock = some k) ∧ BKept2 V0.heap.size X Bk k1 v len sl k2 v2 len2 el ∧ ((∀ j, j < k1 → len j ≤ 4398046511000) ∧ (∀ j, j < k2 → len2 j ≤ 4398046511000)) ∧ (∃ l : List Ev, l.length ≤ 4398046511000 ∧ X.ownsRow 0 100 4 v' l.length (evRow l)) ∧ ∀ k, v'.ownBlock = some k → V0.heap.size ≤ k ∧ ¬ Bks Bk k1 v sl k2 v2 el k
def OwnI (W V0 X : World) (ll : List (List PlP)) (p : Option Addr) (c8 : Nat) (c : Cfg PS) (wb q nm m r b : Nat) (sv : Value) (qv : Nat → Value) (vb : Nat → Nat) (pb : Nat → Nat → Nat) (Bk k1 k2 : Nat) (v' : Value) : Prop := ∃ s, DRx ll.length (clOf ll) c s ∧ ∃ v len sl v2 len2 el, HWy W V0 X ll p c8 c s wb q nm m r b sv qv vb pb (fun k => Bks Bk k1 v sl k2 v2 el k ∨ v'.ownBlock = some k) ∧ BKept2 V0.heap.size X Bk k1 v len sl k2 v2 len2 el ∧ ((∀ j, j < k1 → len j ≤ 4398046511000) ∧ (∀ j, j < k2 → len2 j ≤ 4398046511000)) ∧ (∃ (n : Nat) (ys : List Value), n ≤ 4398046511000 ∧ X.ownsRow 0 3 1 v' n ys) ∧ ∀ k, v'.ownBlock = some k → V0.heap.size ≤ k ∧ ¬ Bks Bk k1 v sl k2 v2 el k
section
variable {W V0 X Y : World} {ll : List (List PlP)} {p : Option Addr} {c8 : Nat} {c d : Cfg PS} {wb q nm m r b : Nat} {sv : Value} {qv : Nat → Value} {vb : Nat → Nat} {pb : Nat → Nat → Nat} {Bk k1 k2 : Nat} {v' : Value}
theorem OwnS.start (h : Same9 W V0 X ll p c8 c wb q nm m r b sv qv vb pb) : OwnS W V0 (X.alloc (.cells (bookCells2 (.slice none 0 0) (.slice none 0 0)) 63)) ll p c8 c c wb q nm m r b sv qv vb pb X.heap.size 0 0 := by
  obtain ⟨s, h1, h2⟩ := h.ex
  have sz := h1.chg.size
  refine ⟨s, h2, _, _, _, _, _, _, (HWy.of h1).others (H := fun _ => False) ((Chg.refl _ _).alloc _) (fun k _ z => z.elim) (fun k e => .inr ?_), BKept2.start X V0.heap.size sz, fun j hj => by omega, fun j hj => by omega⟩
  rcases e with e | e | ⟨j, hj, e⟩ | e | ⟨j, hj, e⟩
  · subst e; exact ⟨Nat.le_refl _, by simp⟩
  · simp [Value.ownBlock] at e
  · omega
  · simp [Value.ownBlock] at e
  · omega
theorem OwnS.pickP (h : OwnS W V0 X ll p c8 c d wb q nm m r b sv qv vb pb Bk k1 k2) (th : Int) (hst : c.st ≤ 16777216) : Calls Tryz.prog 8 #[.pointer (some ⟨r, 0, none⟩), .int .i64 th] X fun e Y => (∃ bb, e = .returned (.bool bb)) ∧ OwnS W V0 Y ll p c8 (c.pick (plK W.heap.size W) 200 ll.length (clOf ll) th) d wb q nm m r b sv qv vb pb Bk k1 k2 := by
  obtain ⟨s, h2, v, len, sl, v2, len2, el, h1, hb, hl⟩ := h
  refine (h1.pickP th hst).mono ?_
  rintro e Y ⟨he, g, k⟩
  exact ⟨he, s, h2, v, len, sl, v2, len2, el, g, hb.same k, hl⟩
theorem OwnS.pickD (h : OwnS W V0 X ll p c8 c d wb q nm m r b sv qv vb pb Bk k1 k2) (hWV : Chg (fun _ => False) W V0) {ap : Nat → Option Addr} {ac : Nat → Nat} {lp : Nat → Nat → Option Addr} {lc : Nat → Nat → Nat} (hP : ThsAt W W.heap.size p ll ap ac lp lc) (hls : ∀ l ∈ ll, l.length ≤ 1048576) (hL : ∀ l ∈ ll, ∀ q ∈ l, q.L.length ≤ 1048576) (hI : PInv ll.length (clOf ll) (qOf ll) d) (hst : d.st ≤ 16777216) (th : Int) : Calls Tryz.prog 9 #[.pointer (some ⟨q, 0, none⟩), .int .i64 th] X fun e Y => (∃ bb, e = .returned (.bool bb)) ∧ OwnS W V0 Y ll p c8 c (d.pick (plK W.heap.size W) 200 ll.length (clOf ll) th) wb q nm m r b sv qv vb pb Bk k1 k2 := by
  obtain ⟨s, h2, v, len, sl, v2, len2, el, h1, hb, hl⟩ := h
  refine (h1.pickD hWV hP hls hL h2 hI (by rw [h2.st]; exact hst) th).mono ?_
  rintro e Y ⟨he, s', ⟨g, k⟩, h3⟩
  exact ⟨he, s', h3, v, len, sl, v2, len2, el, g, hb.same k, hl⟩
theorem OwnS.cells (h : OwnS W V0 X ll p c8 c d wb q nm m r b sv qv vb pb Bk k1 k2) : X.cell? ⟨wb, 1, none⟩ = some (.pointer (some ⟨r, 0, none⟩)) ∧ Chg (fun _ => False) V0 X := by
  obtain ⟨s, h2, v, len, sl, v2, len2, el, h1, hb, hl⟩ := h
  exact ⟨h1.x.cell.1, h1.x.chg⟩
theorem OwnS.quiet (h : OwnS W V0 X ll p c8 c d wb q nm m r b sv qv vb pb Bk k1 k2) (g : Chg (fun _ => False) X Y) : OwnS W V0 Y ll p c8 c d wb q nm m r b sv qv vb pb Bk k1 k2 := by
  obtain ⟨s, h2, v, len, sl, v2, len2, el, h1, hb, hl⟩ := h
  exact ⟨s, h2, v, len, sl, v2, len2, el, h1.others g (fun k _ z => z.elim) (fun k e => .inl e), hb.quiet g, hl⟩
theorem OwnS.events (h : OwnS W V0 X ll p c8 c c wb q nm m r b sv qv vb pb Bk k1 k2) (hst : c.st ≤ 16777216) : Calls Tryz.prog 17 #[.pointer (some ⟨r, 0, none⟩)] X fun e Y => ∃ v', e = .returned v' ∧ OwnE W V0 Y ll p c8 c wb q nm m r b sv qv vb pb Bk k1 k2 v' := by
  obtain ⟨s, h2, v, len, sl, v2, len2, el, h1, hb, hl⟩ := h
  obtain ⟨S, g⟩ := h1.gr
  obtain ⟨sm1, sm2⟩ := gr_small g hst
  refine (gr_eventsF g (by omega)).mono ?_
  rintro e Y ⟨v', rfl, o, cc, fr⟩
  refine ⟨v', rfl, s, h2, v, len, sl, v2, len2, el, h1.others cc (fun k _ z => z.elim) (fun k e => ?_), hb.quiet cc, hl, ⟨c.evs, by omega, o⟩, fun k e => ⟨?_, fun z => ?_⟩⟩
  · rcases e with e | e
    · exact .inl e
    · exact .inr ⟨fr k e, row_lt o k e⟩
  · have := fr k e; have := h1.x.chg.size; omega
  · have := fr k e; have := (hb.lt k z).2; omega
theorem OwnS.ats (h : OwnS W V0 X ll p c8 c c wb q nm m r b sv qv vb pb Bk k1 k2) (hst : c.st ≤ 16777216) : Calls Tryz.prog 19 #[.pointer (some ⟨r, 0, none⟩)] X fun e Y => ∃ v', e = .returned v' ∧ OwnI W V0 Y ll p c8 c wb q nm m r b sv qv vb pb Bk k1 k2 v' := by
  obtain ⟨s, h2, v, len, sl, v2, len2, el, h1, hb, hl⟩ := h
  obtain ⟨S, g⟩ := h1.gr
  obtain ⟨sm1, sm2⟩ := gr_small g hst
  have hA : (extN c.ats c.t.length (-1)).length ≤ 32777216 := by rw [extN_length]; have := h2.al; omega
  refine (gr_atF g (by omega) h2.al).mono ?_
  rintro e Y ⟨v', rfl, o, cc, fr⟩
  refine ⟨v', rfl, s, h2, v, len, sl, v2, len2, el, h1.others cc (fun k _ z => z.elim) (fun k e => ?_), hb.quiet cc, hl, ⟨_, _, by omega, o⟩, fun k e => ⟨?_, fun z => ?_⟩⟩
  · rcases e with e | e
    · exact .inl e
    · exact .inr ⟨fr k e, row_lt o k e⟩
  · have := fr k e; have := h1.x.chg.size; omega
  · have := fr k e; have := (hb.lt k z).2; omega
theorem OwnS.pending (h : OwnS W V0 X ll p c8 c c wb q nm m r b sv qv vb pb Bk k1 k2) (hst : c.st ≤ 16777216) : Calls Tryz.prog 20 #[.pointer (some ⟨r, 0, none⟩)] X fun e Y => ∃ v', e = .returned v' ∧ OwnI W V0 Y ll p c8 c wb q nm m r b sv qv vb pb Bk k1 k2 v' := by
  obtain ⟨s, h2, v, len, sl, v2, len2, el, h1, hb, hl⟩ := h
  obtain ⟨S, g⟩ := h1.gr
  obtain ⟨sm1, sm2⟩ := gr_small g hst
  have hA : (pndL c.bg ll.length).length ≤ 1048576 := by
    have a1 := pndL_len c.bg ll.length
    have a2 : ll.length ≤ 64 := by
      obtain ⟨K, _, d0, _⟩ := h1
      obtain ⟨tg, gc, ga, gg, ev, wv, gv, R, h4, hK⟩ := d0
      exact h4.bd.2.2.2.2.2
    omega
  refine (gr_pendingF g).mono ?_
  rintro e Y ⟨v', rfl, o, cc, fr⟩
  refine ⟨v', rfl, s, h2, v, len, sl, v2, len2, el, h1.others cc (fun k _ z => z.elim) (fun k e => ?_), hb.quiet cc, hl, ⟨_, _, by omega, o⟩, fun k e => ⟨?_, fun z => ?_⟩⟩
  · rcases e with e | e
    · exact .inl e
    · exact .inr ⟨fr k e, row_lt o k e⟩
  · have := fr k e; have := h1.x.chg.size; omega
  · have := fr k e; have := (hb.lt k z).2; omega
theorem OwnE.take (h : OwnE W V0 X ll p c8 c wb q nm m r b sv qv vb pb Bk k1 k2 v') (hk : k2 ≤ 8388608) : Calls Tryz.prog 16 #[.pointer (some ⟨Bk, 0, none⟩), v'] X fun e Y => e = .returned (.tuple #[]) ∧ OwnS W V0 Y ll p c8 c c wb q nm m r b sv qv vb pb Bk k1 (k2 + 1) := by
  obtain ⟨s, h2, v, len, sl, v2, len2, el, h1, hb, ⟨hl1, hl2⟩, ⟨l, hn, o⟩, hf⟩ := h
  obtain ⟨pp, cc, rfl⟩ := slice_of o
  refine (take_e2 V0.heap.size Bk k1 l.length cc pp v len sl k2 v2 len2 el l rfl X hk hb o (fun j b hj e1 e2 => (hf b e2).2 (.inr (.inr (.inr (.inr ⟨j, hj, e1⟩))))) (fun b e => (hf b e).1)).mono ?_
  rintro e Y ⟨rfl, ⟨me, hb2, hm⟩, g⟩
  refine ⟨rfl, s, h2, _, _, _, _, _, _, h1.others g (fun k hk e => ?_) (fun k e => ?_), hb2, hl1, fun j hj => ?_⟩
  · rcases e with e | e
    · exact .inl (.inl e)
    · exact .inl (.inr (.inr (.inr (.inl e))))
  · have hlt := (hb2.lt k e).2
    rcases e with e | e | ⟨j, hj, e⟩ | e | ⟨j, hj, e⟩
    · exact .inl (.inl (.inl e))
    · exact .inl (.inl (.inr (.inl e)))
    · exact .inl (.inl (.inr (.inr (.inl ⟨j, hj, e⟩))))
    · rcases hm k e with z | z
      · exact .inl (.inl (.inr (.inr (.inr (.inl z)))))
      · exact .inr ⟨z, hlt⟩
    · by_cases ej : j = k2
      · simp only [if_pos ej] at e
        exact .inl (.inr e)
      · simp only [if_neg ej] at e
        exact .inl (.inl (.inr (.inr (.inr (.inr ⟨j, by omega, e⟩)))))
  · by_cases ej : j = k2
    · simp only [if_pos ej]; exact hn
    · simp only [if_neg ej]; exact hl2 j (by omega)
theorem OwnI.take (h : OwnI W V0 X ll p c8 c wb q nm m r b sv qv vb pb Bk k1 k2 v') (hk : k1 ≤ 8388608) : Calls Tryz.prog 18 #[.pointer (some ⟨Bk, 0, none⟩), v'] X fun e Y => e = .returned (.tuple #[]) ∧ OwnS W V0 Y ll p c8 c c wb q nm m r b sv qv vb pb Bk (k1 + 1) k2 := by
  obtain ⟨s, h2, v, len, sl, v2, len2, el, h1, hb, ⟨hl1, hl2⟩, ⟨n, ys, hn, o⟩, hf⟩ := h
  obtain ⟨pp, cc, rfl⟩ := slice_of o
  refine (take_i2 V0.heap.size Bk k1 n cc pp v len sl k2 v2 len2 el ys X hk hb o (fun j b hj e1 e2 => (hf b e2).2 (.inr (.inr (.inl ⟨j, hj, e1⟩)))) (fun b e => (hf b e).1)).mono ?_
  rintro e Y ⟨rfl, ⟨me, hb2, hm⟩, g⟩
  refine ⟨rfl, s, h2, _, _, _, _, _, _, h1.others g (fun k hk e => ?_) (fun k e => ?_), hb2, fun j hj => ?_, hl2⟩
  · rcases e with e | e
    · exact .inl (.inl e)
    · exact .inl (.inr (.inl e))
  · have hlt := (hb2.lt k e).2
    rcases e with e | e | ⟨j, hj, e⟩ | e | ⟨j, hj, e⟩
    · exact .inl (.inl (.inl e))
    · rcases hm k e with z | z
      · exact .inl (.inl (.inr (.inl z)))
      · exact .inr ⟨z, hlt⟩
    · by_cases ej : j = k1
      · simp only [if_pos ej] at e
        exact .inl (.inr e)
      · simp only [if_neg ej] at e
        exact .inl (.inl (.inr (.inr (.inl ⟨j, by omega, e⟩))))
    · exact .inl (.inl (.inr (.inr (.inr (.inl e)))))
    · exact .inl (.inl (.inr (.inr (.inr (.inr ⟨j, hj, e⟩)))))
  · by_cases ej : j = k1
    · simp only [if_pos ej]; exact hn
    · simp only [if_neg ej]; exact hl1 j (by omega)
theorem OwnS.alone (h : OwnS W V0 X ll p c8 c c wb q nm m r b sv qv vb pb Bk k1 k2) (h1 : k1 ≤ 8388608) (h2 : k2 ≤ 8388608) : Calls Tryz.prog 21 #[.pointer (some ⟨Bk, 0, none⟩)] X fun e Y => e = .returned (.bool true) ∧ Same9 W V0 Y ll p c8 c wb q nm m r b sv qv vb pb := by
  obtain ⟨s, hd, v, len, sl, v2, len2, el, hy, hb, hl1, hl2⟩ := h
  refine (aloneAll_2 V0.heap.size Bk k1 v len sl k2 v2 len2 el X h1 h2 hb hl1 hl2).mono ?_
  rintro e Y ⟨rfl, g⟩
  exact ⟨rfl, s, (hy.others (E' := fun _ => False) g (fun k _ e => e) (fun k e => e.elim)).x, hd⟩
end
end Go.Proofs.YtnhiodmigmmfgaaGreat
/- StepOwn, walked. -/
namespace Go.Proofs.YtnhiodmigmmfgaaGreat
open Go.RowKit Go.Shelf
set_option linter.unusedVariables false

set_option maxRecDepth 100000 in
set_option maxHeartbeats 16000000 in
theorem own_walk {W : World} {p : Option Addr} {c8 : Nat} {ll : List (List PlP)} {ap : Nat → Option Addr} {ac : Nat → Nat} {lp : Nat → Nat → Option Addr} {lc : Nat → Nat → Nat} (hP : ThsAt W W.heap.size p ll ap ac lp lc) (hll : ll.length ≤ 1048576) (hls : ∀ l ∈ ll, l.length ≤ 1048576) (hL : ∀ l ∈ ll, ∀ q ∈ l, q.L.length ≤ 1048576) {pa : Option Addr} {ca : Nat} {la : List Int} (hA : IReads W pa la) (hla : la.length ≤ 1048576) :
    Calls Tryz.prog 5 #[.slice p ll.length c8, .slice pa la.length ca] W fun e W' => e = .returned (.bool true) ∧ Chg (fun _ => False) W W' := by
  have HP := keepH hP
  have HLS := keepH hls
  have HL := keepH hL
  have HA := keepH hA
  have HL1 := keepH (s_live W)
  clear hP hls hL hA
  go_enter Tryz.func5, Tryz.ntmps5
  go_wp2_with fail
  refine HL1.out.mono ?_
  rintro e V0 ⟨rfl, c0⟩
  have HC0 := keepH c0
  clear c0 HL1
  cases hb : tooL ll with
  | true =>
    have HB1 := keepH (both_long (c8 := c8) HC0.out HP.out hll HLS.out HL.out hb)
    clear hb
    go_wp2_with fail
    refine HB1.out.mono ?_
    rintro e Y1 ⟨wb1, rfl, c1⟩
    have HC1 : Hid (Chg (fun _ => False) W Y1) := HC0.out.trans c1 (fun _ _ x => x) (fun _ _ x => x)
    clear c1
    go_wp2_with fail
    go_ret
    exact ⟨by simp, HC1.out⟩
  | false =>
    have HB1 := keepH (both_all (c8 := c8) HC0.out HP.out hll HLS.out HL.out hb)
    clear hb
    go_wp2_with fail
    refine HB1.out.mono ?_
    rintro e Y1 ⟨wb, q, rfl, m, r, b, nm, sv, qv, vb, pb, K, hwb, hV, g1, d1, hK, hM, hm⟩
    obtain ⟨c0, hc0⟩ : ∃ c0, c0 = c0Of ll lp lc := ⟨_, rfl⟩
    have HS0 : Hid (Same9 W V0 Y1 ll p c8 c0 wb q nm m r b sv qv vb pb) := by
      rw [hc0]
      exact ⟨⟨r0S, hwx_start hwb hV g1 d1 hK hM hm, drx_start ll lp lc⟩⟩
    have HPI : Hid (∀ l, PInv ll.length (clOf ll) (qOf ll) (c0.run (plK W.heap.size W) 200 ll.length (clOf ll) l) ∧ ∀ x ∈ (c0.run (plK W.heap.size W) 200 ll.length (clOf ll) l).t, x.vals.length ≤ 1099511627776) := by
      rw [hc0]; exact fun l => c0_vals HP.out l
    have HST : Hid (∀ l, (c0.run (plK W.heap.size W) 200 ll.length (clOf ll) l).st = l.length) := fun l => by
      rw [run_st, hc0]; show 0 + l.length = _; omega
    have HIA : Hid (IReads V0 pa la) := HA.out.chg HC0.out
    clear hc0 hwb hV g1 d1 hK hM hm HB1 HA
    go_wp2_with fail
    have HZ0 := keepH (OwnS.start HS0.out)
    obtain ⟨Bk, hBk⟩ : ∃ Bk, Bk = Y1.heap.size := ⟨_, rfl⟩
    rw [← hBk] at HZ0 ⊢
    clear hBk
    go_loopw [9] (fun s wx => ∃ k : Nat, k ≤ la.length ∧ s = .int .i64 (k : Int) ∧ Hid (OwnS W V0 wx ll p c8 (c0.run (plK W.heap.size W) 200 ll.length (clOf ll) (la.take k)) (c0.run (plK W.heap.size W) 200 ll.length (clOf ll) (la.take k)) wb q nm m r b sv qv vb pb Bk (4 * k) (2 * k))) (fun s _ => la.length - (intOf s).toNat)
    case atStart =>
      refine ⟨0, Nat.zero_le _, rfl, ?_⟩
      have e0 : c0.run (plK W.heap.size W) 200 ll.length (clOf ll) (la.take 0) = c0 := rfl
      rw [e0]
      exact HZ0
    case round =>
      clear HS0 HZ0
      obtain ⟨k, hkl, rfl, HS⟩ := hrel
      obtain ⟨w0, hw0⟩ : ∃ q, q = wr := ⟨_, rfl⟩
      subst hw0
      obtain ⟨c, hc⟩ : ∃ c, c = c0.run (plK W.heap.size W) 200 ll.length (clOf ll) (la.take k) := ⟨_, rfl⟩
      rw [← hc] at HS
      have hcst : c.st ≤ 1048576 := by rw [hc, HST.out, List.length_take]; omega
      have HIc : Hid (PInv ll.length (clOf ll) (qOf ll) c ∧ ∀ x ∈ c.t, x.vals.length ≤ 1099511627776) := by rw [hc]; exact HPI.out _
      by_cases hk : k < la.length
      · have t1 : (k : Int) < (la.length : Int) := by omega
        obtain ⟨x, hx⟩ : ∃ x, la[k]? = some x := ⟨la[k], List.getElem?_eq_getElem hk⟩
        have HRN : Hid (c0.run (plK W.heap.size W) 200 ll.length (clOf ll) (la.take (k + 1)) = c.pick (plK W.heap.size W) 200 ll.length (clOf ll) x) := by rw [hc]; exact Cfg.run_more _ _ _ _ _ _ _ _ hx
        obtain ⟨d, hd⟩ : ∃ d, d = c.pick (plK W.heap.size W) 200 ll.length (clOf ll) x := ⟨_, rfl⟩
        have hdst : d.st ≤ 16777216 := by rw [hd, pick_st]; omega
        rw [← hd] at HRN
        have HPP : Hid (∀ Z, OwnS W V0 Z ll p c8 c c wb q nm m r b sv qv vb pb Bk (4 * k) (2 * k) → Calls Tryz.prog 8 #[.pointer (some ⟨r, 0, none⟩), .int .i64 x] Z fun e Y => (∃ bb, e = .returned (.bool bb)) ∧ OwnS W V0 Y ll p c8 d c wb q nm m r b sv qv vb pb Bk (4 * k) (2 * k)) := fun Z hZ => by rw [hd]; exact hZ.pickP x (by omega)
        have HPD : Hid (∀ Z, OwnS W V0 Z ll p c8 d c wb q nm m r b sv qv vb pb Bk (4 * k) (2 * k) → Calls Tryz.prog 9 #[.pointer (some ⟨q, 0, none⟩), .int .i64 x] Z fun e Y => (∃ bb, e = .returned (.bool bb)) ∧ OwnS W V0 Y ll p c8 d d wb q nm m r b sv qv vb pb Bk (4 * k) (2 * k)) := fun Z hZ => by
          have z := hZ.pickD HC0.out HP.out HLS.out HL.out HIc.out.1 (by omega) x
          rw [← hd] at z
          exact z
        obtain ⟨bk, off, epa, hbk, hcx⟩ := HIA.out.get k x hx
        subst epa
        have HCX : Hid (∀ w, Chg (fun _ => False) V0 w → w.cell? ⟨bk, off + k, none⟩ = some (.int .i64 x)) := fun w cw => cell_chg cw hcx (fun h => h)
        clear hc hx hcx hd HIc
        have u0 := HS.out.cells.1
        have u1 := HCX.out _ HS.out.cells.2
        go_upto_region 10 with fail
        go_cut [] from 33 to 41 (fun wx => Hid (OwnS W V0 wx ll p c8 d c wb q nm m r b sv qv vb pb Bk (4 * k) (2 * k)))
        case first =>
          have HY0 : Hid (OwnS W V0 w0.drew ll p c8 c c wb q nm m r b sv qv vb pb Bk (4 * k) (2 * k)) := HS.out.quiet ((Chg.refl _ _).drew)
          clear u0 u1
          refine wp_region_held_drew (S := fun w => w.cell? ⟨wb, 1, none⟩ = some (.pointer (some ⟨r, 0, none⟩)) ∧ w.cell? ⟨bk, off + k, none⟩ = some (.int .i64 x)) (by kernel_rfl) ⟨HY0.out.cells.1, HCX.out _ HY0.out.cells.2⟩ ?_
          obtain ⟨y0, hy0⟩ : ∃ y0, y0 = w0.drew := ⟨_, rfl⟩
          rw [← hy0] at HY0 ⊢
          clear hy0
          intro hHeld
          refine wpAnyH_take (i := 0) (v := ?_) rfl (by kernel_rfl) (by kernel_rfl) (by kernel_rfl) (fun _ _ _ h => h) (Or.inl ⟨by first | rfl | kernel_rfl, ?_⟩) hHeld ?_
          rotate_left
          · intro w hSw
            (try dsimp only at hSw)
            go_simp
            try with_reducible rfl
          (try simp only [Act.put, List.getElem_toArray, List.getElem_cons_zero]); (try simp only [List.setIfInBounds_toArray]); (repeat (first | simp only [List.set_cons_succ] | simp only [List.set_cons_zero]))
          refine wpAnyH_take (i := 1) (v := ?_) rfl (by kernel_rfl) (by kernel_rfl) (by kernel_rfl) (fun _ _ _ h => h) (Or.inl ⟨by first | rfl | kernel_rfl, ?_⟩) hHeld ?_
          rotate_left
          · intro w hSw
            (try dsimp only at hSw)
            go_simp
            try with_reducible rfl
          (try simp only [Act.put, List.getElem_toArray, List.getElem_cons_succ, List.getElem_cons_zero]); (try simp only [List.setIfInBounds_toArray]); (repeat (first | simp only [List.set_cons_succ] | simp only [List.set_cons_zero]))
          refine wpAnyH_take (i := 2) (v := ?_) rfl (by kernel_rfl) (by kernel_rfl) (by kernel_rfl) (fun _ _ _ h => h) (Or.inl ⟨by first | rfl | kernel_rfl, ?_⟩) hHeld ?_
          rotate_left
          · intro w hSw
            (try dsimp only at hSw)
            go_simp
            try with_reducible rfl
          (try simp only [Act.put, List.getElem_toArray, List.getElem_cons_succ, List.getElem_cons_zero]); (try simp only [List.setIfInBounds_toArray]); (repeat (first | simp only [List.set_cons_succ] | simp only [List.set_cons_zero]))
          refine wpAnyH_take (i := 3) (v := ?_) rfl (by kernel_rfl) (by kernel_rfl) (by kernel_rfl) (fun _ _ _ h => h) (Or.inl ⟨by first | rfl | kernel_rfl, ?_⟩) hHeld ?_
          rotate_left
          · intro w hSw
            (try dsimp only at hSw)
            go_simp
            try with_reducible rfl
          (try simp only [Act.put, List.getElem_toArray, List.getElem_cons_succ, List.getElem_cons_zero]); (try simp only [List.setIfInBounds_toArray]); (repeat (first | simp only [List.set_cons_succ] | simp only [List.set_cons_zero]))
          refine wpAnyH_take (i := 4) (v := ?_) rfl (by kernel_rfl) (by kernel_rfl) (by kernel_rfl) (fun _ _ _ h => h) (Or.inl ⟨by first | rfl | kernel_rfl, ?_⟩) hHeld ?_
          rotate_left
          · intro w hSw
            (try dsimp only at hSw)
            go_simp
            try with_reducible rfl
          (try simp only [Act.put, List.getElem_toArray, List.getElem_cons_succ, List.getElem_cons_zero]); (try simp only [List.setIfInBounds_toArray]); (repeat (first | simp only [List.set_cons_succ] | simp only [List.set_cons_zero]))
          refine wpAnyH_take (i := 5) (v := ?_) rfl (by kernel_rfl) (by kernel_rfl) (by kernel_rfl) (fun _ _ _ h => h) (Or.inl ⟨by first | rfl | kernel_rfl, ?_⟩) hHeld ?_
          rotate_left
          · intro w hSw
            (try dsimp only at hSw)
            go_simp
            try with_reducible rfl
          (try simp only [Act.put, List.getElem_toArray, List.getElem_cons_succ, List.getElem_cons_zero]); (try simp only [List.setIfInBounds_toArray]); (repeat (first | simp only [List.set_cons_succ] | simp only [List.set_cons_zero]))
          refine wpAnyH_take (i := 6) (v := ?_) rfl (by kernel_rfl) (by kernel_rfl) (by kernel_rfl) (fun _ _ _ h => h) (Or.inl ⟨by first | rfl | kernel_rfl, ?_⟩) hHeld ?_
          rotate_left
          · intro w hSw
            (try dsimp only at hSw)
            go_simp
            try with_reducible rfl
          (try simp only [Act.put, List.getElem_toArray, List.getElem_cons_succ, List.getElem_cons_zero]); (try simp only [List.setIfInBounds_toArray]); (repeat (first | simp only [List.set_cons_succ] | simp only [List.set_cons_zero]))
          refine wpAnyH_take (i := 7) (v := ?_) rfl (by kernel_rfl) (by kernel_rfl) (by kernel_rfl) (fun _ _ _ h => h) (Or.inl ⟨by first | rfl | kernel_rfl, ?_⟩) hHeld ?_
          rotate_left
          · intro w hSw
            (try dsimp only at hSw)
            go_simp
            try with_reducible rfl
          (try simp only [Act.put, List.getElem_toArray, List.getElem_cons_succ, List.getElem_cons_zero]); (try simp only [List.setIfInBounds_toArray]); (repeat (first | simp only [List.set_cons_succ] | simp only [List.set_cons_zero]))
          refine wpAnyH_ready (rs := [8]) (by kernel_rfl) (by simp) ?_
          refine (AllReadyH.cons rfl (fun KK hKK => ?_) AllReadyH.nil)
          go_simp
          go_at_call 8
          refine (HPP.out _ HY0.out).mono ?_
          rintro e y1 ⟨⟨b1, rfl⟩, h1⟩
          have HY1 := keepH h1
          clear h1
          (try go_wp2_with fail)
          refine hKK.out _ _ ?_ (fun hHeld => ?_)
          · exact ⟨HY1.out.cells.1, HCX.out _ HY1.out.cells.2⟩
          clear hKK KK
          (try simp only [Act.put, List.getElem_toArray, List.getElem_cons_succ, List.getElem_cons_zero]); (try simp only [List.setIfInBounds_toArray]); (repeat (first | simp only [List.set_cons_succ] | simp only [List.set_cons_zero]))
          refine wpAnyH_done (by kernel_rfl) ?_ _
          go_simp
          (try go_wp2_with fail)
          go_meet
          exact HY1
        obtain ⟨y1, hy1⟩ : ∃ q, q = wc := ⟨_, rfl⟩
        subst hy1
        have HY1 := hcut
        clear hcut u0 u1
        have u0 := HY1.out.cells.1
        have u1 := HCX.out _ HY1.out.cells.2
        go_wp2_with fail
        refine (HPD.out _ HY1.out).mono ?_
        rintro e y2 ⟨⟨b2, rfl⟩, h2⟩
        have HT0 := keepH h2
        clear h2 u0 u1 HY1
        have u0 := HT0.out.cells.1
        go_wp2_with fail
        refine (HT0.out.events hdst).mono ?_
        rintro e z0 ⟨v0, rfl, a0⟩
        have HA0 := keepH a0
        clear a0 u0
        go_wp2_with fail
        refine (HA0.out.take (by omega)).mono ?_
        rintro e x0 ⟨rfl, a0⟩
        have HT1 := keepH a0
        clear a0 HA0 HT0
        have u0 := HT1.out.cells.1
        go_wp2_with fail
        refine (HT1.out.events hdst).mono ?_
        rintro e z1 ⟨v1, rfl, a1⟩
        have HA1 := keepH a1
        clear a1 u0
        go_wp2_with fail
        refine (HA1.out.take (by omega)).mono ?_
        rintro e x1 ⟨rfl, a1⟩
        have HT2 := keepH a1
        clear a1 HA1 HT1
        have u0 := HT2.out.cells.1
        go_wp2_with fail
        refine (HT2.out.ats hdst).mono ?_
        rintro e z2 ⟨v2, rfl, a2⟩
        have HA2 := keepH a2
        clear a2 u0
        go_wp2_with fail
        refine (HA2.out.take (by omega)).mono ?_
        rintro e x2 ⟨rfl, a2⟩
        have HT3 := keepH a2
        clear a2 HA2 HT2
        have u0 := HT3.out.cells.1
        go_wp2_with fail
        refine (HT3.out.ats hdst).mono ?_
        rintro e z3 ⟨v3, rfl, a3⟩
        have HA3 := keepH a3
        clear a3 u0
        go_wp2_with fail
        refine (HA3.out.take (by omega)).mono ?_
        rintro e x3 ⟨rfl, a3⟩
        have HT4 := keepH a3
        clear a3 HA3 HT3
        have u0 := HT4.out.cells.1
        go_wp2_with fail
        refine (HT4.out.pending hdst).mono ?_
        rintro e z4 ⟨v4, rfl, a4⟩
        have HA4 := keepH a4
        clear a4 u0
        go_wp2_with fail
        refine (HA4.out.take (by omega)).mono ?_
        rintro e x4 ⟨rfl, a4⟩
        have HT5 := keepH a4
        clear a4 HA4 HT4
        have u0 := HT5.out.cells.1
        go_wp2_with fail
        refine (HT5.out.pending hdst).mono ?_
        rintro e z5 ⟨v5, rfl, a5⟩
        have HA5 := keepH a5
        clear a5 u0
        go_wp2_with fail
        refine (HA5.out.take (by omega)).mono ?_
        rintro e x5 ⟨rfl, a5⟩
        have HT6 := keepH a5
        clear a5 HA5 HT5
        go_wp2_with fail
        go_roundw
        case rel => exact ⟨k + 1, by omega, by first | rfl | go_num, by rw [HRN.out, show 4 * (k + 1) = 4 * k + 1 + 1 + 1 + 1 by omega, show 2 * (k + 1) = 2 * k + 1 + 1 by omega]; exact HT6⟩
        case measure => simp [intOf]; omega
      · have t1 : ¬ (k : Int) < (la.length : Int) := by omega
        have HAL := keepH (HS.out.alone (by omega) (by omega))
        clear hc
        go_wp2_with fail
        refine HAL.out.mono ?_
        rintro e w1 ⟨rfl, h1⟩
        have HK2 := keepH (h1.alike HC0.out HP.out HLS.out HIc.out.1 (by omega) HIc.out.2)
        clear h1
        go_wp2_with fail
        refine HK2.out.mono ?_
        rintro e w2 ⟨rfl, h2⟩
        have HC2 : Hid (Chg (fun _ => False) W w2) := HC0.out.trans h2.chg (fun _ _ x => x) (fun _ _ x => x)
        clear h2
        go_wp2_with fail
        go_ret
        exact ⟨by simp, HC2.out⟩
end Go.Proofs.YtnhiodmigmmfgaaGreat
/- Picks that come in. -/
namespace Go.Proofs.YtnhiodmigmmfgaaGreat
open Go.RowKit Go.Shelf Go.Joins Go.ChangeShapes Go.WideShapes Go.Deep
set_option linter.unusedVariables false

theorem coInt : Tryz.prog.cellsOf 3 = 1 := by kernel_rfl

set_option maxRecDepth 100000 in
theorem ints_open {H : Type} {enc : TypeId × Value → H} {W : World} {sp : Nat → Bool} {held : Bool} {p : Option Addr} {n c : Nat} {d : DataW H} {ps : List MemPlace} (h : DataW.Trod enc Tryz.prog W 0 sp held 23 (.slice p n c) d ps) :
    ∃ xs : List Int, xs.length = n ∧ IReads W p xs ∧ n ≤ Rows.uptoBulk d ∧ ∀ x ∈ xs, (Lit.int .i64 x).wf = true := by
  obtain ⟨fuel, hf⟩ := h
  rcases open_ints Tryz.underlying23 Tryz.underlying3 coInt hf with ⟨hcs, _⟩ | ⟨a, len, cap, zs, hcs, _, hl, hm, hme, hx, hi, hw⟩
  · simp [Value.cells] at hcs
    obtain ⟨rfl, rfl, rfl⟩ := hcs
    exact ⟨[], rfl, .inl rfl, Nat.zero_le _, fun x hx => by simp at hx⟩
  · simp [Value.cells] at hcs
    obtain ⟨rfl, rfl, rfl⟩ := hcs
    have hmn : n ≤ zs.length := by rw [hme]; split <;> omega
    have hb : n ≤ Rows.uptoBulk d := by
      simp only [Prod.mk.injEq] at hx
      rw [hx.1]
      have := bulk_length (H := H) (lits .i64 (zs.take n))
      simp only [Rows.uptoBulk]
      have e : (lits (H := H) .i64 (zs.take n)).length = n := by simp [lits]; omega
      omega
    refine ⟨zs.take n, by simp; omega, ?_, hb, fun x hx => hw x (List.mem_of_mem_take hx)⟩
    rcases Nat.eq_zero_or_pos n with h0 | h0
    · exact .inl (by rw [h0]; rfl)
    · obtain ⟨bk, off, spot⟩ := a
      have c0 := hi 0 (by omega)
      have hspot : spot = none := by simpa [Addr.add] using World.cell?_spot c0
      subst hspot
      have hbk : bk < W.heap.size := by
        by_cases cb : bk < W.heap.size
        · exact cb
        · simp [World.cell?, Addr.add, Array.getElem?_eq_none (show W.heap.size ≤ bk by omega)] at c0
      refine .inr ⟨bk, off, rfl, hbk, fun i x hx => ?_⟩
      have hin : i < n := by
        have := (List.getElem?_eq_some_iff.1 hx).1
        simp at this
        omega
      rw [List.getElem?_take, if_pos hin] at hx
      have e := hi i (by omega)
      rw [List.getD_eq_getElem?_getD, hx] at e
      have e3 : (⟨bk, off, none⟩ : Addr).add i = ⟨bk, off + i, none⟩ := by
        unfold Addr.add
        split <;> simp
      rw [← e3]
      simpa using e
end Go.Proofs.YtnhiodmigmmfgaaGreat
