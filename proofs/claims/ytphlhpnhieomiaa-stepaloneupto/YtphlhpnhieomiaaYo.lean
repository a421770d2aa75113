/- StepAlone: what lies in memory between its parts. -/
import Derived.Test.YtphlhpnhieomiaaYl
import Derived.Test.YtphlhpnhieomiaaYm
import Derived.Test.YtphlhpnhieomiaaYn
import Derived.Test.YtphlhpnhieomiaaYf
namespace Go.Proofs.Ytphlhpnhieomiaa
open Go.RowKit Go.Shelf
set_option linter.unusedVariables false

/-- Behind the row's making. -/
structure S1 (W X : World) (p : Option Addr) (l : List PlP) (lp : Nat → Option Addr) (lc pb : Nat → Nat) (b g5 rb : Nat) (v8 vr : Value) : Prop where
  mem : IsMem X (b + 1) b
  bank : Bank X (fun k => k = b) b 200 1 [] []
  rm : RM X (fun k => k = b + 2 ∨ k = b + 3) (b + 3) 200 1 [] []
  pl : PlansAt X W.heap.size p l lp lc
  mine : ∃ cur : Array Value, X.heap[g5]? = some (.cells cur 55 (0, 0)) ∧ cur[0]? = some v8
  r8 : X.ownsRow (b + 5) 59 1 v8 (ptL l pb l.length).length (ptL l pb l.length)
  pr : ∀ (j : Nat) (q : PlP), l[j]? = some q → q.none = false → X.heap[pb j]? = some (.cells #[.slice (lp j) q.L.length (lc j), .int .i64 0, .slice none 0 0] 58 (0, 0)) ∧ b + 5 ≤ pb j
  inj : ∀ (j j' : Nat) (q q' : PlP), j < j' → l[j]? = some q → l[j']? = some q' → q.none = false → q'.none = false → pb j < pb j'
  row : X.heap[rb]? = some (.cells #[vr, .int .i64 0] 97 (0, 0))
  rv : X.ownsRow 0 40 1 vr l.length (ifL l pb l.length)
  lo : W.heap.size ≤ b ∧ b + 5 ≤ g5 ∧ b + 5 ≤ rb ∧ ∀ k, vr.ownBlock = some k → b + 5 ≤ k
  chg : Chg (fun _ => False) W X
theorem S1.on {W X Y : World} {p : Option Addr} {l : List PlP} {lp : Nat → Option Addr} {lc pb : Nat → Nat} {b g5 rb : Nat} {v8 vr : Value} {G : Nat → Prop} (h : S1 W X p l lp lc pb b g5 rb v8 vr) (c : Chg G X Y) (hG : ∀ k, G k → (∃ cur : Array Value, X.heap[k]? = some (.cells cur 40 (0, 0))) ∧ vr.ownBlock ≠ some k ∧ b + 5 ≤ k) : S1 W Y p l lp lc pb b g5 rb v8 vr := by
  have lo : ∀ k, k < b + 5 → ¬ G k := fun k hk e => by have := (hG k e).2.2; omega
  have ne : ∀ {k : Nat} {cur : Array Value} {t : TypeId}, X.heap[k]? = some (.cells cur t (0, 0)) → t ≠ 40 → Y.heap[k]? = some (.cells cur t (0, 0)) := fun hk ht => (c.block _ (lt_of hk) (fun e => by obtain ⟨⟨cur', hc⟩, _⟩ := hG _ e; exact typ_ne hk hc ht rfl)).trans hk
  obtain ⟨l1, l2, l3, l4⟩ := h.lo
  have sz := h.chg.size
  obtain ⟨cur, m1, m2⟩ := h.mine
  refine ⟨(c.block _ (lt_of h.mem) (lo _ (by omega))).trans h.mem, h.bank.chg c (fun k e => lo k (by omega)), h.rm.chg c (fun k e => lo k (by omega)), h.pl.low (fun k hk => c.block k (by omega) (lo k (by omega))), ⟨cur, ne m1 (by decide), m2⟩, rowB_kept h.r8 (fun g hg => ?_), fun j q hq hn => ⟨ne (h.pr j q hq hn).1 (by decide), (h.pr j q hq hn).2⟩, h.inj, ne h.row (by decide), row_kept h.rv (fun k e => c.block k (row_lt h.rv k e) (fun q => (hG k q).2.1 e)), h.lo, h.chg.trans c (fun _ _ x => x) (fun k hk e => by have := (hG k e).2.2; omega)⟩
  obtain ⟨_, cur', hc⟩ := row_typ h.r8 hg
  exact (ne hc (by decide)).trans hc.symm
/-- Behind the run of the row alone. -/
structure S3 (W X : World) (p : Option Addr) (l : List PlP) (lp : Nat → Option Addr) (lc pb : Nat → Nat) (b v g5 rb : Nat) (v8 : Value) (I S made : Nat) : Prop where
  mem : IsMem X (b + 1) b
  bank : ∃ F lb, Bank X F b 200 (mS 200 ⟨1, []⟩ l I S).next (mS 200 ⟨1, []⟩ l I S).cs lb ∧ lb.map Acc.bare = tS 3 200 ⟨1, []⟩ l I S ∧ ∀ k, F k → k ≠ b + 2 ∧ k ≠ b + 3
  view : IsView X v b 3 made ∧ v ≠ b + 2 ∧ v ≠ b + 3
  row : (∃ rs rc, X.heap[rb]? = some (.cells #[.slice rs l.length rc, .int .i64 (I : Int)] 97 (0, 0))) ∧ b + 5 ≤ rb
  got : ∀ (i : Nat) (q : PlP), l[i]? = some q → q.none = false → ∃ gv, X.heap[pb i]? = some (.cells #[.slice (lp i) q.L.length (lc i), .int .i64 (atOf I S i q : Int), gv] 58 (0, 0)) ∧ X.ownsRow 0 51 1 gv (gF 200 ⟨1, []⟩ l I S i).length ((gF 200 ⟨1, []⟩ l I S i).map u64V) ∧ (∀ k, gv.ownBlock = some k → k ≠ b + 2 ∧ k ≠ b + 3) ∧ b + 5 ≤ pb i
  pl : PlansAt X W.heap.size p l lp lc
  mine : ∃ cur : Array Value, X.heap[g5]? = some (.cells cur 55 (0, 0)) ∧ cur[0]? = some v8
  r8 : X.ownsRow (b + 5) 59 1 v8 (ptL l pb l.length).length (ptL l pb l.length)
  lo : W.heap.size ≤ b ∧ b + 5 ≤ g5
  chg : Chg (fun _ => False) W X
def R0 (b k : Nat) : Prop := k = b + 2 ∨ k = b + 3
theorem S3.on {W X Y : World} {p : Option Addr} {l : List PlP} {lp : Nat → Option Addr} {lc pb : Nat → Nat} {b v g5 rb : Nat} {v8 : Value} {I S made : Nat} (h : S3 W X p l lp lc pb b v g5 rb v8 I S made) (c : Chg (R0 b) X Y) : S3 W Y p l lp lc pb b v g5 rb v8 I S made := by
  have kp : ∀ {k : Nat} {o : Obj}, X.heap[k]? = some o → k ≠ b + 2 ∧ k ≠ b + 3 → Y.heap[k]? = some o := fun hk hn => (c.block _ (lt_of hk) (fun e => e.elim hn.1 hn.2)).trans hk
  obtain ⟨F, lb, hb, hl, hF⟩ := h.bank
  obtain ⟨⟨rs, rc, hr⟩, hr2⟩ := h.row
  obtain ⟨cur, m1, m2⟩ := h.mine
  obtain ⟨l1, l2⟩ := h.lo
  have sz := h.chg.size
  refine ⟨kp h.mem ⟨by omega, by omega⟩, ⟨F, lb, hb.chg c (fun k e q => q.elim (hF k e).1 (hF k e).2), hl, hF⟩, ⟨kp h.view.1 h.view.2, h.view.2⟩, ⟨⟨rs, rc, kp hr ⟨by omega, by omega⟩⟩, hr2⟩, fun i q hq hn => ?_, h.pl.low (fun k hk => c.block k (by omega) (fun e => by rcases e with e | e <;> omega)), ⟨cur, kp m1 ⟨by omega, by omega⟩, m2⟩, rowB_kept h.r8 (fun g hg => ?_), h.lo, h.chg.trans c (fun _ _ x => x) (fun k hk e => by rcases e with e | e <;> omega)⟩
  · obtain ⟨gv, a1, a2, a3, a4⟩ := h.got i q hq hn
    exact ⟨gv, kp a1 ⟨by omega, by omega⟩, row_kept a2 (fun k e => c.block k (row_lt a2 k e) (fun q => q.elim (a3 k e).1 (a3 k e).2)), a3, a4⟩
  · obtain ⟨hlo, cur', hc⟩ := row_typ h.r8 hg
    exact c.block g (lt_of hc) (fun e => by rcases e with e | e <;> omega)
/-- Behind View(3). -/
theorem S1.view {W X : World} {p : Option Addr} {l : List PlP} {lp : Nat → Option Addr} {lc pb : Nat → Nat} {b g5 rb : Nat} {v8 vr : Value} (h : S1 W X p l lp lc pb b g5 rb v8 vr) : S1 W (X.alloc (.cells #[.iface 93 (.pointer (some ⟨b, 0, none⟩)), .int .i64 3, .int .i64 0] 99)) p l lp lc pb b g5 rb v8 vr ∧ IsView (X.alloc (.cells #[.iface 93 (.pointer (some ⟨b, 0, none⟩)), .int .i64 3, .int .i64 0] 99)) X.heap.size b 3 0 ∧ b + 5 ≤ X.heap.size :=
  ⟨h.on ((Chg.refl (fun _ => False) X).alloc _) (fun _ e => e.elim), heap_alloc_new _ _, by have := lt_of h.row; have := h.lo.2.2.1; omega⟩
theorem row_so_done {rb rc : Nat} {rs : Option Addr} {v : Value} {X : World} {n : Nat} (h : X.heap[rb]? = some (.cells #[.slice rs n rc, .int .i64 (n : Int)] 97 (0, 0))) :
    Calls Try.prog 37 #[.iface 36 (.pointer (some ⟨rb, 0, none⟩)), v] X fun e Y => e = .returned (.bool true) ∧ Chg (fun _ => False) X Y := by
  refine (so_row rb v true (fun Y => Chg (fun _ => False) (X.alloc (.cells #[.bool false] 4)) Y) X ?_).mono ?_
  · refine (row_done (X := X.alloc (.cells #[.bool false] 4)) ((Below.heap_alloc _ _ _ (lt_of h)).trans h)).mono ?_
    rintro e Y ⟨rfl, q, rfl⟩
    exact ⟨rfl, drewN_chgY _ _, rfl⟩
  · rintro e Y ⟨rfl, W1, C, rfl⟩
    exact ⟨rfl, (((Chg.refl (fun _ => False) X).alloc _).trans C (H := fun _ => False) (fun _ _ x => x) (fun _ _ x => x)).setCell (p := ⟨X.heap.size, 0, none⟩) (fun q => absurd q (Nat.lt_irrefl _)) _⟩
set_option maxRecDepth 100000 in
set_option maxHeartbeats 8000000 in
theorem alone_nil {rb rc v : Nat} {rs : Option Addr} {X : World} (h : X.heap[rb]? = some (.cells #[.slice rs 0 rc, .int .i64 0] 97 (0, 0))) (most : Int) :
    Calls Try.prog 12 #[.pointer (some ⟨v, 0, none⟩), .iface 36 (.pointer (some ⟨rb, 0, none⟩)), .int .i64 most] X fun e Y => e = .returned (.bool (decide (1 ≤ most))) ∧ Chg (fun _ => False) X Y := by
  have HN := keepH (row_so_done (v := .pointer (some ⟨v, 0, none⟩)) h)
  clear h
  go_enter Try.func12, Try.ntmps12
  go_wp2_with fail
  go_loopw [8] (fun s wr => s = .int .i64 0 ∧ wr = X) (fun s _ => 0)
  case atStart => exact ⟨rfl, rfl⟩
  case round =>
    obtain ⟨rfl, hw⟩ := hrel
    have hw' : X = wr := hw.symm
    subst hw'
    by_cases hc : (0 : Int) < most
    · go_wp2_with fail
      refine HN.out.mono ?_
      rintro e w2 ⟨rfl, C2⟩
      have HC2 := keepH C2
      clear C2
      go_wp2_with fail
      exact bodyPost_ret (results_tmp rfl _ _ _) rfl ⟨by rw [decide_eq_true (show (1 : Int) ≤ most by omega)]; rfl, HC2.out⟩
    · go_wp2_with fail
      exact bodyPost_ret (results_tmp rfl _ _ _) rfl ⟨by rw [decide_eq_false (show ¬ (1 : Int) ≤ most by omega)]; rfl, Chg.refl _ _⟩
def nd (l : List PlP) : Nat := if pre l l.length < 1 then 1 else pre l l.length
theorem alone_any {W X : World} {p : Option Addr} {l : List PlP} {lp : Nat → Option Addr} {lc pb : Nat → Nat} {b v g5 rb : Nat} {v8 vr : Value} (h : S1 W X p l lp lc pb b g5 rb v8 vr) (hv : IsView X v b 3 0) (hv5 : b + 5 ≤ v) (most : Int) (hsum : pre l l.length ≤ 1099511627776) (hLl : ∀ p ∈ l, p.L.length ≤ 1048576) :
    Calls Try.prog 12 #[.pointer (some ⟨v, 0, none⟩), .iface 36 (.pointer (some ⟨rb, 0, none⟩)), .int .i64 most] X fun e Y => e = .returned (.bool (decide ((nd l : Int) ≤ most))) ∧ ∃ I S made, Pos l (min most.toNat (pre l l.length)) I S ∧ S3 W Y p l lp lc pb b v g5 rb v8 I S made ∧ RM Y (R0 b) (b + 3) 200 1 [] [] := by
  obtain ⟨l1, l2, l3, l4⟩ := h.lo
  obtain ⟨cur, m1, m2⟩ := h.mine
  have sz := h.chg.size
  by_cases hne : l = []
  · subst hne
    obtain ⟨rs, rc, e⟩ := slice_of h.rv
    have hrow := h.row
    rw [e] at hrow
    refine (alone_nil hrow most).mono ?_
    rintro e Y ⟨rfl, c⟩
    have h' := h.on c (fun _ e => e.elim)
    refine ⟨by have e1 : nd [] = 1 := rfl; rw [e1]; rfl, 0, 0, 0, by rw [show min most.toNat (pre [] ([] : List PlP).length) = 0 by simp [pre]]; exact pos_zero, ⟨h'.mem, ⟨_, [], by rw [mS_zero]; exact h'.bank, by rw [tS_zero]; rfl, fun k e => by omega⟩, ⟨(c.block _ hv.lt (fun x => x)).trans hv, by omega, by omega⟩, ⟨⟨rs, rc, (c.block _ (lt_of hrow) (fun x => x)).trans hrow⟩, l3⟩, fun i q hq => by simp at hq, h'.pl, h'.mine, h'.r8, ⟨l1, l2⟩, h'.chg⟩, h'.rm⟩
  · have hpos : 0 < l.length := by cases l with | nil => exact absurd rfl hne | cons x r => simp
    obtain ⟨rp, rc, e⟩ := slice_pos h.rv hpos
    have hrow := h.row
    have hrv := h.rv
    have hl4 := l4
    rw [e] at hrow hrv hl4
    obtain ⟨K, hA, hK⟩ := al_start (W := W) (B := W.heap.size) (s1 := b + 5) h.bank hv (fun k e => by omega) hrow hrv (fun j q hq hn => h.pr j q hq hn) (fun j j' q q' => h.inj j j' q q') h.pl (by omega) l3 (hl4 rp rfl) hv5 sz
    obtain ⟨cu, hcu⟩ : ∃ cu : Array Value, X.heap[rp]? = some (.cells cu 40 (0, 0)) := by
      obtain ⟨_, cu, hc⟩ := row_typ hrv (g := rp) rfl
      exact ⟨cu, hc⟩
    have nK : ∀ k, K k → k = b ∨ b + 5 ≤ k := fun k e => by
      rcases hK k e with q | q | q | q | ⟨i, r, hi, hn, q⟩
      · exact .inl q
      · exact .inr (by omega)
      · exact .inr (by omega)
      · have := hl4 rp rfl; exact .inr (by omega)
      · have := (h.pr i r hi hn).2; exact .inr (by omega)
    have nT : ∀ {k : Nat} {cur : Array Value} {t : TypeId}, X.heap[k]? = some (.cells cur t (0, 0)) → b < k → t ≠ 99 → t ≠ 97 → t ≠ 40 → t ≠ 58 → ¬ K k := fun hk hb t1 t2 t3 t4 e => by
      rcases hK _ e with q | q | q | q | ⟨i, r, hi, hn, q⟩
      · omega
      · exact typ_ne hk hv t1 q
      · exact typ_ne hk hrow t2 q
      · exact typ_ne hk hcu t3 q
      · exact typ_ne hk (h.pr i r hi hn).1 t4 q
    refine (alone_al hA hne most hsum (fun p hp => by have := hLl p hp; omega)).mono ?_
    rintro e Y ⟨rfl, I, S, made, K', hP, hA', c, nK'⟩
    have hnd : nd l = pre l l.length := by
      have := pre_ge l l.length (Nat.le_refl _)
      unfold nd; rw [if_neg (by omega)]
    have K5 : ∀ k, K' k → k ≠ b + 2 ∧ k ≠ b + 3 := fun k e => by
      have szx := lt_of h.row
      rcases nK' k e with q | q
      · have := nK k q; omega
      · omega
    obtain ⟨F, D, tg, hA', f1, f2, f3, f4, f5, f6⟩ := hA'
    obtain ⟨lb, hbk, hlb⟩ := hA'.bank
    refine ⟨by rw [hnd], I, S, made, hP, ⟨(c.block _ (lt_of h.mem) (fun e => by have := nK _ e; omega)).trans h.mem, ⟨F, lb, hbk, hlb, fun k e => K5 k (f1 k e)⟩, ⟨hA'.view, by omega, by omega⟩, ⟨⟨_, _, hA'.row⟩, l3⟩, fun i q hq hn => ?_, h.pl.low (fun k hk => c.block k (by omega) (fun e => by have := nK _ e; omega)), ⟨cur, (c.block _ (lt_of m1) (nT m1 (by omega) (by decide) (by decide) (by decide) (by decide))).trans m1, m2⟩, rowB_kept h.r8 (fun g hg => ?_), ⟨l1, l2⟩, h.chg.trans c (fun _ _ x => x) (fun k hk e => by have := nK _ e; omega)⟩, h.rm.chg c (fun k e q => by have := nK _ q; omega)⟩
    · obtain ⟨gv, a1, a2, a3⟩ := (hA'.procs i q hq hn).ex
      exact ⟨gv, a1, a2, fun k e => K5 k (f5 i q k hq hn ((a3 k).2 (.inr e))), (h.pr i q hq hn).2⟩
    · obtain ⟨hlo, cur', hc⟩ := row_typ h.r8 hg
      exact c.block g (lt_of hc) (nT hc (by omega) (by decide) (by decide) (by decide) (by decide))
end Go.Proofs.Ytphlhpnhieomiaa
