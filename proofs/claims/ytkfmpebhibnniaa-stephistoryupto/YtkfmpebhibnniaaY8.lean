/- The law's procs of many lists of plans. -/
import Derived.Test.YtkfmpebhibnniaaYk
namespace Go.Proofs.Ytkfmpebhibnniaa
open Go.RowKit Go.Shelf
set_option linter.unusedVariables false

/-- Lists of plans as they lie in memory, all of it below B. -/
def ThsAt (W : World) (B : Nat) (p : Option Addr) (ll : List (List PlP)) (ap : Nat → Option Addr) (ac : Nat → Nat) (lp : Nat → Nat → Option Addr) (lc : Nat → Nat → Nat) : Prop := ∀ (i : Nat) (l : List PlP), ll[i]? = some l → (∃ bk off, p = some ⟨bk, off, none⟩ ∧ bk < B ∧ W.cell? ⟨bk, off + i, none⟩ = some (.slice (ap i) l.length (ac i))) ∧ PlansAt W B (ap i) l (lp i) (lc i)
theorem ThsAt.low {W Y : World} {B : Nat} {p : Option Addr} {ll : List (List PlP)} {ap : Nat → Option Addr} {ac : Nat → Nat} {lp : Nat → Nat → Option Addr} {lc : Nat → Nat → Nat} (h : ThsAt W B p ll ap ac lp lc) (hl : ∀ k, k < B → Y.heap[k]? = W.heap[k]?) : ThsAt Y B p ll ap ac lp lc := fun i l hi => by
  obtain ⟨⟨bk, off, e, hb, c0⟩, hd⟩ := h i l hi
  exact ⟨⟨bk, off, e, hb, cell_low hl hb c0⟩, hd.low hl⟩
theorem ThsAt.chg {W Y : World} {B : Nat} {p : Option Addr} {ll : List (List PlP)} {ap : Nat → Option Addr} {ac : Nat → Nat} {lp : Nat → Nat → Option Addr} {lc : Nat → Nat → Nat} (h : ThsAt W B p ll ap ac lp lc) (hB : B ≤ W.heap.size) (c : Chg (fun _ => False) W Y) : ThsAt Y B p ll ap ac lp lc := h.low (fun k hk => c.block k (by omega) (fun x => x))
def updV {α : Type} (f : Nat → α) (i : Nat) (x : α) : Nat → α := fun j => if j = i then x else f j
theorem range_updV {α : Type} (f : Nat → α) (n : Nat) (x : α) : (List.range n).map (updV f n x) = (List.range n).map f := List.map_congr_left fun j hj => by have := List.mem_range.1 hj; unfold updV; rw [if_neg (by omega)]
/-- What is laid when n lists are done. -/
structure PM (W X : World) (ll : List (List PlP)) (lp : Nat → Nat → Option Addr) (lc : Nat → Nat → Nat) (n : Nat) (tv sv : Value) (rv qv : Nat → Value) (pb : Nat → Nat → Nat) : Prop where
  o1 : X.ownsRow W.heap.size 38 1 tv n ((List.range n).map rv)
  o2 : X.ownsRow W.heap.size 55 1 sv n ((List.range n).map qv)
  r1 : ∀ (i : Nat) (l : List PlP), i < n → ll[i]? = some l → X.ownsRow W.heap.size 40 1 (rv i) l.length (ifL l (pb i) l.length)
  r2 : ∀ (i : Nat) (l : List PlP), i < n → ll[i]? = some l → X.ownsRow W.heap.size 59 1 (qv i) (ptL l (pb i) l.length).length (ptL l (pb i) l.length)
  pr : ∀ (i : Nat) (l : List PlP) (j : Nat) (q : PlP), i < n → ll[i]? = some l → l[j]? = some q → q.none = false → X.heap[pb i j]? = some (.cells #[.slice (lp i j) q.L.length (lc i j), .int .i64 0, .slice none 0 0] 58 (0, 0)) ∧ W.heap.size ≤ pb i j
  inj : ∀ (i i' : Nat) (l l' : List PlP) (j j' : Nat) (q q' : PlP), i < n → i' < n → ll[i]? = some l → ll[i']? = some l' → l[j]? = some q → l'[j']? = some q' → q.none = false → q'.none = false → (i < i' ∨ (i = i' ∧ j < j')) → pb i j < pb i' j'
  chg : Chg (fun _ => False) W X
theorem PM.start (W : World) (ll : List (List PlP)) (lp : Nat → Nat → Option Addr) (lc : Nat → Nat → Nat) (rv qv : Nat → Value) (pb : Nat → Nat → Nat) : PM W W ll lp lc 0 (.slice none 0 0) (.slice none 0 0) rv qv pb :=
  ⟨World.ownsRow_nil _ _ _ _, World.ownsRow_nil _ _ _ _, fun i l hi => by omega, fun i l hi => by omega, fun i l j q hi => by omega, fun i i' l l' j j' q q' hi => by omega, Chg.refl _ _⟩
theorem row_up {X : World} {B B' : Nat} {e : TypeId} {s : Nat} {v : Value} {n : Nat} {xs : List Value} (h : X.ownsRow B' e s v n xs) (hB : B ≤ B') : X.ownsRow B e s v n xs := by
  obtain ⟨h0, h1⟩ := h
  refine ⟨h0, ?_⟩
  rcases h1 with h1 | ⟨g, cap, cur, rfl, hb, r⟩
  · exact .inl h1
  · exact .inr ⟨g, cap, cur, rfl, by omega, r⟩
/-- One list more. -/
theorem PM.more {W X w3 w4 w5 : World} {ll : List (List PlP)} {lp : Nat → Nat → Option Addr} {lc : Nat → Nat → Nat} {n : Nat} {tv sv tv' sv' v7 v8 : Value} {rv qv : Nat → Value} {pb : Nat → Nat → Nat} {l : List PlP} {pc : Nat → Nat} {o o' : Obj} (h : PM W X ll lp lc n tv sv rv qv pb) (hl : ll[n]? = some l) (hB : PB X w3 l (lp n) (lc n) pc l.length v7 v8)
    (r1 : w4.ownsRow W.heap.size 38 1 tv' (n + 1) ((List.range n).map rv ++ [v7])) (r2 : (w3.alloc o).grownBy w4 tv.ownBlock) (s1 : w5.ownsRow W.heap.size 55 1 sv' (n + 1) ((List.range n).map qv ++ [v8])) (s2 : (w4.alloc o').grownBy w5 sv.ownBlock) : PM W w5 ll lp lc (n + 1) tv' sv' (updV rv n v7) (updV qv n v8) (updV pb n pc) := by
  have sz := h.chg.size
  have c3 := hB.chg
  have c4 : Chg (fun k => tv.ownBlock = some k) w3 w4 := ((Chg.refl (fun k => tv.ownBlock = some k) w3).alloc o).grown r2 (fun k e _ => e)
  have c5 : Chg (fun k => sv.ownBlock = some k) w4 w5 := ((Chg.refl (fun k => sv.ownBlock = some k) w4).alloc o').grown s2 (fun k e _ => e)
  have o1' : w3.ownsRow W.heap.size 38 1 tv n ((List.range n).map rv) := rowB_kept h.o1 (fun g hg => c3.block g (h.o1.lt g hg).2 (fun x => x))
  have o2' : w3.ownsRow W.heap.size 55 1 sv n ((List.range n).map qv) := rowB_kept h.o2 (fun g hg => c3.block g (h.o2.lt g hg).2 (fun x => x))
  have kp : ∀ {k : Nat} {cur : Array Value} {t : TypeId}, w3.heap[k]? = some (.cells cur t (0, 0)) → t ≠ 38 → t ≠ 55 → w5.heap[k]? = some (.cells cur t (0, 0)) := fun {k cur t} hk t1 t2 => by
    have a4 : w4.heap[k]? = some (.cells cur t (0, 0)) := (c4.block _ (lt_of hk) (fun e => by obtain ⟨_, cur', hc⟩ := row_typ o1' e; exact typ_ne hk hc t1 rfl)).trans hk
    refine (c5.block _ (lt_of a4) (fun e => ?_)).trans a4
    obtain ⟨_, cur', hc⟩ := row_typ o2' e
    exact typ_ne hk hc t2 rfl
  have kX : ∀ {k : Nat} {cur : Array Value} {t : TypeId}, X.heap[k]? = some (.cells cur t (0, 0)) → t ≠ 38 → t ≠ 55 → w5.heap[k]? = some (.cells cur t (0, 0)) := fun hk t1 t2 => kp ((c3.block _ (lt_of hk) (fun x => x)).trans hk) t1 t2
  have en : ∀ {α : Type} (f : Nat → α) (x : α), updV f n x n = x := fun f x => by unfold updV; rw [if_pos rfl]
  have eo : ∀ {α : Type} (f : Nat → α) (x : α) (i : Nat), i < n → updV f n x i = f i := fun f x i hi => by unfold updV; rw [if_neg (by omega)]
  refine ⟨?_, ?_, fun i l' hi hl' => ?_, fun i l' hi hl' => ?_, fun i l' j q hi hl' hq hn => ?_, fun i i' l1 l2 j j' q q' hi hi' h1 h2 h3 h4 h5 h6 h7 => ?_, ((h.chg.trans c3 (H := fun _ => False) (fun _ _ x => x) (fun _ _ x => x)).trans c4 (H := fun _ => False) (fun _ _ x => x) (fun k hk e => by have := (o1'.lt k e).1; omega)).trans c5 (fun _ _ x => x) (fun k hk e => by have := (o2'.lt k e).1; omega)⟩
  · rw [List.range_succ, List.map_append, range_updV, List.map_cons, List.map_nil, en]
    refine rowB_kept r1 (fun g hg => ?_)
    obtain ⟨_, cur, hc⟩ := row_typ r1 hg
    refine c5.block g (lt_of hc) (fun e => ?_)
    obtain ⟨_, cur', hc'⟩ := row_typ o2' e
    have hc4 : w4.heap[g]? = some (.cells cur' 55 (0, 0)) := (c4.block _ (lt_of hc') (fun e => by obtain ⟨_, cur2, hc2⟩ := row_typ o1' e; exact typ_ne hc' hc2 (by decide) rfl)).trans hc'
    exact typ_ne hc hc4 (by decide) rfl
  · rw [List.range_succ, List.map_append, range_updV, List.map_cons, List.map_nil, en]
    exact s1
  · by_cases e : i = n
    · subst e
      rw [hl] at hl'; injection hl' with hl'; subst hl'
      rw [en, en]
      exact row_up (rowB_kept hB.r7 (fun g hg => by obtain ⟨_, cur, hc⟩ := row_typ hB.r7 hg; exact (kp hc (by decide) (by decide)).trans hc.symm)) sz
    · rw [eo _ _ i (by omega), eo _ _ i (by omega)]
      have hr := h.r1 i l' (by omega) hl'
      exact rowB_kept hr (fun g hg => by obtain ⟨_, cur, hc⟩ := row_typ hr hg; exact (kX hc (by decide) (by decide)).trans hc.symm)
  · by_cases e : i = n
    · subst e
      rw [hl] at hl'; injection hl' with hl'; subst hl'
      rw [en, en]
      exact row_up (rowB_kept hB.r8 (fun g hg => by obtain ⟨_, cur, hc⟩ := row_typ hB.r8 hg; exact (kp hc (by decide) (by decide)).trans hc.symm)) sz
    · rw [eo _ _ i (by omega), eo _ _ i (by omega)]
      have hr := h.r2 i l' (by omega) hl'
      exact rowB_kept hr (fun g hg => by obtain ⟨_, cur, hc⟩ := row_typ hr hg; exact (kX hc (by decide) (by decide)).trans hc.symm)
  · by_cases e : i = n
    · subst e
      rw [hl] at hl'; injection hl' with hl'; subst hl'
      rw [en]
      have hp := hB.pr j q ((List.getElem?_eq_some_iff.1 hq).1) hq hn
      exact ⟨kp hp.1 (by decide) (by decide), by omega⟩
    · rw [eo _ _ i (by omega)]
      have hp := h.pr i l' j q (by omega) hl' hq hn
      exact ⟨kX hp.1 (by decide) (by decide), hp.2⟩
  · by_cases e' : i' = n
    · subst e'
      rw [hl] at h2; injection h2 with h2; subst h2
      rw [en]
      by_cases e : i = i'
      · subst e
        rw [hl] at h1; injection h1 with h1; subst h1
        rw [en]
        exact hB.inj j j' q q' (by omega) ((List.getElem?_eq_some_iff.1 h4).1) h3 h4 h5 h6
      · rw [eo _ _ i (by omega)]
        have a1 := lt_of (h.pr i l1 j q (by omega) h1 h3 h5).1
        have a2 := (hB.pr j' q' ((List.getElem?_eq_some_iff.1 h4).1) h4 h6).2
        omega
    · rw [eo _ _ i' (by omega), eo _ _ i (by omega)]
      exact h.inj i i' l1 l2 j j' q q' (by omega) (by omega) h1 h2 h3 h4 h5 h6 h7
set_option maxRecDepth 100000 in
set_option maxHeartbeats 8000000 in
theorem pr_many {V : World} {B : Nat} {p : Option Addr} {ll : List (List PlP)} {ap : Nat → Option Addr} {ac : Nat → Nat} {lps : Nat → Nat → Option Addr} {lcs : Nat → Nat → Nat} {c : Nat} (hP : ThsAt V B p ll ap ac lps lcs) (hB : B ≤ V.heap.size) (hl : ll.length ≤ 1048576) (hls : ∀ l ∈ ll, l.length ≤ 1048576) :
    Calls Try.prog 9 #[.slice p ll.length c] V fun e Y => ∃ tv sv, e = .returned (.tuple #[tv, sv]) ∧ ∃ rv qv pb, PM V Y ll lps lcs ll.length tv sv rv qv pb := by
  obtain ⟨i0, hi0, hz0, hz1, hz2⟩ := info_parts infoPy
  obtain ⟨j0, hj0, hy0, hy1, hy2⟩ := info_parts infoQy
  obtain ⟨k0, hk0, hx0, hx1, hx2⟩ := info_parts infoPsy
  obtain ⟨m0, hm0, hw0, hw1, hw2⟩ := info_parts infoQsy
  have HPT := keepH hP
  have HLS := keepH hls
  have HM0 : Hid (PM V V ll lps lcs 0 (.slice none 0 0) (.slice none 0 0) (fun _ => .nilIface) (fun _ => .nilIface) (fun _ _ => 0)) := PM.start V ll lps lcs _ _ _
  clear hP hls
  go_enter Try.func9, Try.ntmps9
  go_wp2_with fail
  go_loopw [4, 5, 6] (fun s4 s5 s6 wr => ∃ i : Nat, i ≤ ll.length ∧ s6 = .int .i64 (i : Int) ∧ (∃ p4 c4, s4 = .slice p4 i c4) ∧ (∃ p5 c5, s5 = .slice p5 i c5) ∧ Hid (∃ rv qv pb, PM V wr ll lps lcs i s4 s5 rv qv pb)) (fun _ _ s _ => ll.length - (intOf s).toNat)
  case atStart => exact ⟨0, Nat.zero_le _, rfl, ⟨none, 0, rfl⟩, ⟨none, 0, rfl⟩, _, _, _, HM0.out⟩
  case round =>
    obtain ⟨i, hil, rfl, ⟨p4, c4, rfl⟩, ⟨p5, c5, rfl⟩, HX⟩ := hrel
    by_cases hi : i < ll.length
    · have z1 : (i : Int) < (ll.length : Int) := by omega
      obtain ⟨W, hW⟩ : ∃ W, W = wr := ⟨_, rfl⟩
      subst hW
      obtain ⟨rv, qv, pbs, hM⟩ := HX.out
      have HM := keepH hM
      obtain ⟨l, hll⟩ : ∃ l, ll[i]? = some l := ⟨ll[i], List.getElem?_eq_getElem hi⟩
      have HL := keepH hll
      have hl1 : l.length ≤ 1048576 := HLS.out l (List.mem_of_getElem? hll)
      obtain ⟨⟨gb, go, rfl, hgb, hg0⟩, hPl⟩ := HPT.out i l hll
      have HG : Hid (∀ w', Chg (fun _ => False) W w' → w'.cell? ⟨gb, go + i, none⟩ = some (.slice (ap i) l.length (ac i))) := fun w' cw => by
        obtain ⟨⟨gb', go', e', _, hc⟩, _⟩ := (HPT.out.chg hB (HM.out.chg.trans cw (H := fun _ => False) (fun _ _ x => x) (fun _ _ x => x))) i l HL.out
        injection e' with e'
        injection e' with e1 e2 _
        subst e1 e2
        exact hc
      have HP : Hid (PlansAt W B (ap i) l (lps i) (lcs i)) := hPl.chg hB HM.out.chg
      have hBW : B ≤ W.heap.size := Nat.le_trans hB HM.out.chg.size
      obtain ⟨lp, hlp⟩ : ∃ lp, lp = lps i := ⟨_, rfl⟩
      obtain ⟨lc, hlc⟩ : ∃ lc, lc = lcs i := ⟨_, rfl⟩
      rw [← hlp, ← hlc] at HP
      have HLP := keepH hlp
      have HLC := keepH hlc
      obtain ⟨p, hp⟩ : ∃ p, p = ap i := ⟨_, rfl⟩
      rw [← hp] at HP HG
      have cgW := HG.out W (Chg.refl _ _)
      clear HX hM hll hg0 hPl hgb hlp hlc hp
      go_wp2_with fail
      clear cgW
      go_loopw [7, 8, 9] (fun s7 s8 s9 wr => ∃ k : Nat, k ≤ l.length ∧ s9 = .int .i64 (k : Int) ∧ Hid (∃ pb, PB W wr l lp lc pb k s7 s8)) (fun _ _ s _ => l.length - (intOf s).toNat)
      case atStart => exact ⟨0, Nat.zero_le _, rfl, fun _ => 0, World.ownsRow_nil _ _ _ _, World.ownsRow_nil _ _ _ _, fun j q hj => by omega, fun j j' q q' _ h => by omega, Chg.refl _ _⟩
      case round =>
        obtain ⟨k, hkl, rfl, HY⟩ := hrel
        obtain ⟨pb, hPB⟩ := HY.out
        have HB2 := keepH hPB
        have cg := HG.out wr hPB.chg
        clear hPB HY
        by_cases hlt : k < l.length
        · have q1 : (k : Int) < (l.length : Int) := by omega
          obtain ⟨q, hq⟩ : ∃ q, l[k]? = some q := ⟨l[k], List.getElem?_eq_getElem hlt⟩
          obtain ⟨⟨bk, off, rfl, hbk, c0, c1⟩, _⟩ := (HP.out.chg hBW HB2.out.chg) k q hq
          have HQ := keepH hq
          clear hq hbk
          cases hn : q.none with
          | true =>
            rw [hn] at c0
            have HN := keepH hn
            clear hn
            go_wp2_with (at_builtin; refine wpList_append_own_at _ rfl _ _ 38 rfl W.heap.size 40 i0 .nilIface 1 16 Try.underlying38 hi0 hz0 hz1 hz2 rfl (by decide) _ _ _ rfl (HB2.out.r7.alloc _) ⟨_, 0, none⟩ 1 1 [.nilIface] rfl rfl (cells_new _ _ rfl _ _) (by intro u hu; simp at hu; subst hu; rfl) (by unfold maxLen; omega) (by omega) (Nat.le_trans HB2.out.chg.size (by simp)) ?_; intro v7 w7 r1 r2 r3 r4; have HB3 := keepH (HB2.out.skip HQ.out HN.out r1 r2); clear r1 r2 r3 r4)
            go_roundw
            case rel => exact ⟨k + 1, by omega, by first | rfl | go_num, pb, HB3.out⟩
            case measure => simp [intOf]; omega
          | false =>
            rw [hn] at c0
            have HN := keepH hn
            clear hn
            obtain ⟨w4, hw4⟩ : ∃ w4, w4 = wr.alloc (.cells #[.slice (lp k) q.L.length (lc k), .int .i64 0, .slice none 0 0] 58) := ⟨_, rfl⟩
            have HW4 := keepH hw4
            have HR4 : Hid (w4.ownsRow W.heap.size 40 1 u7 k (ifL l pb k) ∧ W.heap.size ≤ w4.heap.size) := by
              have hc : Chg (fun _ => False) wr w4 := by rw [hw4]; exact (Chg.refl _ _).alloc _
              exact ⟨(HB2.out.quiet hc).r7, Nat.le_trans HB2.out.chg.size hc.size⟩
            go_upto_region 14 with fail
            rw [← hw4]
            clear hw4 c0 c1 cg
            go_upto_region 15 with (at_builtin; refine wpList_append_own_at _ rfl _ _ 38 rfl W.heap.size 40 i0 .nilIface 1 16 Try.underlying38 hi0 hz0 hz1 hz2 rfl (by decide) _ _ _ rfl (HR4.out.1.alloc _) ⟨_, 0, none⟩ 1 1 [.iface 59 (.pointer (some ⟨wr.heap.size, 0, none⟩))] rfl rfl (cells_new _ _ rfl _ _) (by intro u hu; simp at hu; subst hu; rfl) (by unfold maxLen; omega) (by omega) (Nat.le_trans HR4.out.2 (by simp)) ?_; intro v7 w7 r1 r2 r3 r4; have HR1 := keepH r1; have HR2 := keepH r2; clear r1 r2 r3 r4)
            have hr8 : w7.ownsRow W.heap.size 59 1 u8 (ptL l pb k).length (ptL l pb k) := by
              have hc : Chg (fun _ => False) wr w4 := by rw [HW4.out]; exact (Chg.refl _ _).alloc _
              have h4 := HB2.out.quiet hc
              refine rowB_kept h4.r8 (fun z hz => ?_)
              obtain ⟨_, cur, hcz⟩ := row_typ h4.r8 hz
              exact (((Chg.refl (fun j => u7.ownBlock = some j) w4).alloc _).grown HR2.out (fun j e _ => e)).block z (lt_of hcz) (fun e => by obtain ⟨_, cur', hc'⟩ := row_typ h4.r7 e; exact typ_ne hcz hc' (by decide) rfl)
            have hpl := ptL_len l pb k
            have HR8 := keepH hr8
            have HSZ : Hid (W.heap.size ≤ w7.heap.size) := by have a1 := HR4.out.2; have a2 := HR2.out.size; rw [World.size_alloc] at a2; show _ ≤ _; omega
            clear hr8
            go_wp2_with (at_builtin; refine wpList_append_own_at _ rfl _ _ 55 rfl W.heap.size 59 j0 (.pointer none) 1 8 Try.underlying55 hj0 hy0 hy1 hy2 rfl (by decide) _ _ _ rfl (HR8.out.alloc _) ⟨_, 0, none⟩ 1 1 [.pointer (some ⟨wr.heap.size, 0, none⟩)] rfl rfl (cells_new _ _ rfl _ _) (by intro u hu; simp at hu; subst hu; rfl) (by unfold maxLen; omega) (by omega) (Nat.le_trans HSZ.out (by simp)) ?_; intro v8 w8 s1 s2 s3 s4; have HB3 := keepH (HB2.out.add HQ.out HN.out HW4.out HR1.out HR2.out s1 s2); clear s1 s2 s3 s4)
            go_roundw
            case rel => exact ⟨k + 1, by omega, by first | rfl | go_num, _, HB3.out⟩
            case measure => simp [intOf]; omega
        · have q1 : ¬ (k : Int) < (l.length : Int) := by omega
          obtain rfl : k = l.length := by omega
          clear hlt hkl
          obtain ⟨p7, c7, rfl⟩ := slice_row HB2.out.r7
          obtain ⟨p8, c8, rfl⟩ := slice_row HB2.out.r8
          have HO1 : Hid (wr.ownsRow V.heap.size 38 1 (.slice p4 i c4) i ((List.range i).map rv)) := rowB_kept HM.out.o1 (fun g hg => HB2.out.chg.block g (HM.out.o1.lt g hg).2 (fun x => x))
          have HVS : Hid (V.heap.size ≤ wr.heap.size) := Nat.le_trans HM.out.chg.size HB2.out.chg.size
          go_upto_region 17 with (at_builtin; refine wpList_append_own_at _ rfl _ _ 31 rfl V.heap.size 38 k0 (.slice none 0 0) 1 24 Try.underlying31 hk0 hx0 hx1 hx2 rfl (by decide) _ _ _ rfl (HO1.out.alloc _) ⟨_, 0, none⟩ 1 1 [.slice p7 l.length c7] rfl rfl (cells_new _ _ rfl _ _) (by intro u hu; simp at hu; subst hu; rfl) (by unfold maxLen; omega) (by omega) (Nat.le_trans HVS.out (by simp)) ?_; intro v4 w4 r1 r2 r3 r4; have HR1 := keepH r1; have HR2 := keepH r2; clear r1 r2 r3 r4)
          have HO2 : Hid (w4.ownsRow V.heap.size 55 1 (.slice p5 i c5) i ((List.range i).map qv)) := by
            have a2 : wr.ownsRow V.heap.size 55 1 (.slice p5 i c5) i ((List.range i).map qv) := rowB_kept HM.out.o2 (fun g hg => HB2.out.chg.block g (HM.out.o2.lt g hg).2 (fun x => x))
            refine rowB_kept a2 (fun g hg => ?_)
            obtain ⟨_, cur, hc⟩ := row_typ a2 hg
            exact (((Chg.refl (fun k => (Value.slice p4 i c4).ownBlock = some k) wr).alloc _).grown HR2.out (fun k e _ => e)).block g (lt_of hc) (fun e => by obtain ⟨_, cur', hc'⟩ := row_typ HO1.out e; exact typ_ne hc hc' (by decide) rfl)
          have HVS4 : Hid (V.heap.size ≤ w4.heap.size) := by have a1 := HVS.out; have a2 := HR2.out.size; rw [World.size_alloc] at a2; show _ ≤ _; omega
          go_wp2_with (at_builtin; refine wpList_append_own_at _ rfl _ _ 32 rfl V.heap.size 55 m0 (.slice none 0 0) 1 24 Try.underlying32 hm0 hw0 hw1 hw2 rfl (by decide) _ _ _ rfl (HO2.out.alloc _) ⟨_, 0, none⟩ 1 1 [.slice p8 (ptL l pb l.length).length c8] rfl rfl (cells_new _ _ rfl _ _) (by intro u hu; simp at hu; subst hu; rfl) (by unfold maxLen; omega) (by omega) (Nat.le_trans HVS4.out (by simp)) ?_; intro v5 w5 s1 s2 s3 s4; have HS1 := keepH s1; have HS2 := keepH s2; clear s1 s2 s3 s4)
          have HB6 : Hid (PB W wr l (lps i) (lcs i) pb l.length (.slice p7 l.length c7) (.slice p8 (ptL l pb l.length).length c8)) := by rw [← HLP.out, ← HLC.out]; exact HB2.out
          have HMM := keepH (HM.out.more HL.out HB6.out HR1.out HR2.out HS1.out HS2.out)
          go_roundw
          case rel => exact ⟨i + 1, by omega, by first | rfl | go_num, slice_row HR1.out, slice_row HS1.out, _, _, _, HMM.out⟩
          case measure => simp [intOf]; omega
    · have z1 : ¬ (i : Int) < (ll.length : Int) := by omega
      obtain rfl : i = ll.length := by omega
      go_wp2_with fail
      go_ret2
      exact ⟨_, _, ⟨by simp, HX.out⟩⟩
end Go.Proofs.Ytkfmpebhibnniaa
