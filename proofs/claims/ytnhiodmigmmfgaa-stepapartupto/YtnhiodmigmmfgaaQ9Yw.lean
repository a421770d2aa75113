/- The law's procs of many lists of plans. -/
import Derived.Test.YtnhiodmigmmfgaaQ8Yk
import Derived.Test.YtnhiodmigmmfgaaQ4Ya
import Derived.Test.YtnhiodmigmmfgaaQ7SAsk
import Derived.Test.YtnhiodmigmmfgaaProg
import Derived.WalkKit
import Derived.BigQuiet
import Derived.BigRegion
import Derived.Deep.CutRange
namespace Go.Proofs.Ytnhiodmigmmfgaa
open Go.RowKit Go.Shelf
set_option linter.unusedVariables false

/-- Lists of plans as they lie in memory, all of it below B. -/
def ThsAt (W : World) (B : Nat) (p : Option Addr) (ll : List (List PlP)) (ap : Nat → Option Addr) (ac : Nat → Nat) (lp : Nat → Nat → Option Addr) (lc : Nat → Nat → Nat) : Prop := ∀ (i : Nat) (l : List PlP), ll[i]? = some l → (∃ bk off, p = some ⟨bk, off, none⟩ ∧ bk < B ∧ W.cell? ⟨bk, off + i, none⟩ = some (.slice (ap i) l.length (ac i))) ∧ PlansAt W B (ap i) l (lp i) (lc i)
theorem ThsAt.low {W Y : World} {B : Nat} {p : Option Addr} {ll : List (List PlP)} {ap : Nat → Option Addr} {ac : Nat → Nat} {lp : Nat → Nat → Option Addr} {lc : Nat → Nat → Nat} (h : ThsAt W B p ll ap ac lp lc) (hl : ∀ k, k < B → Y.heap[k]? = W.heap[k]?) : ThsAt Y B p ll ap ac lp lc := fun i l hi => by
  obtain ⟨⟨bk, off, e, hb, c0⟩, hd⟩ := h i l hi
  exact ⟨⟨bk, off, e, hb, cell_low hl hb c0⟩, hd.low hl⟩
theorem ThsAt.chg {W Y : World} {B : Nat} {p : Option Addr} {ll : List (List PlP)} {ap : Nat → Option Addr} {ac : Nat → Nat} {lp : Nat → Nat → Option Addr} {lc : Nat → Nat → Nat} (h : ThsAt W B p ll ap ac lp lc) (hB : B ≤ W.heap.size) (c : Chg (fun _ => False) W Y) : ThsAt Y B p ll ap ac lp lc := h.low (fun k hk => c.block k (by omega) (fun x => x))
def updV {α : Type} (f : Nat → α) (i : Nat) (x : α) : Nat → α := fun j => if j = i then x else f j
theorem range_updV {α : Type} (f : Nat → α) (n : Nat) (x : α) : (List.range n).map (updV f n x) = (List.range n).map f := List.map_congr_left fun j hj => by have := List.mem_range.1 hj; unfold updV; rw [if_neg (by omega)]
/-- What is laid when n lists are done. -/
structure PM (W X : World) (ll : List (List PlP)) (lp : Nat → Nat → Option Addr) (lc : Nat → Nat → Nat) (n : Nat) (tv sv : Value) (rv qv : Nat → Value) (pb : Nat → Nat → Nat) : Prop where
  o1 : X.ownsRow W.heap.size 59 1 tv n ((List.range n).map rv)
  o2 : X.ownsRow W.heap.size 46 1 sv n ((List.range n).map qv)
  r1 : ∀ (i : Nat) (l : List PlP), i < n → ll[i]? = some l → X.ownsRow W.heap.size 77 1 (rv i) l.length (ifL l (pb i) l.length)
  r2 : ∀ (i : Nat) (l : List PlP), i < n → ll[i]? = some l → X.ownsRow W.heap.size 50 1 (qv i) (ptL l (pb i) l.length).length (ptL l (pb i) l.length)
  pr : ∀ (i : Nat) (l : List PlP) (j : Nat) (q : PlP), i < n → ll[i]? = some l → l[j]? = some q → q.none = false → X.heap[pb i j]? = some (.cells #[.slice (lp i j) q.L.length (lc i j), .int .i64 0, .slice none 0 0] 49 (0, 0)) ∧ W.heap.size ≤ pb i j
  inj : ∀ (i i' : Nat) (l l' : List PlP) (j j' : Nat) (q q' : PlP), i < n → i' < n → ll[i]? = some l → ll[i']? = some l' → l[j]? = some q → l'[j']? = some q' → q.none = false → q'.none = false → (i < i' ∨ (i = i' ∧ j < j')) → pb i j < pb i' j'
  chg : Chg (fun _ => False) W X
theorem PM.start (W : World) (ll : List (List PlP)) (lp : Nat → Nat → Option Addr) (lc : Nat → Nat → Nat) (rv qv : Nat → Value) (pb : Nat → Nat → Nat) : PM W W ll lp lc 0 (.slice none 0 0) (.slice none 0 0) rv qv pb :=
  ⟨World.ownsRow_nil _ _ _ _, World.ownsRow_nil _ _ _ _, fun i l hi => by omega, fun i l hi => by omega, fun i l j q hi => by omega, fun i i' l l' j j' q q' hi => by omega, Chg.refl _ _⟩
theorem row_up {X : World} {B B' : Nat} {e : TypeId} {s : Nat} {v : Value} {n : Nat} {xs : List Value} (h : X.ownsRow B' e s v n xs) (hB : B ≤ B') : X.ownsRow B e s v n xs := by
  obtain ⟨h0, h1⟩ := h
  refine ⟨h0, ?_⟩
  rcases h1 with h1 | ⟨g, cap, cur, rfl, hb, r⟩
  · exact .inl h1
  · exact .inr ⟨g, cap, cur, rfl, by omega, r⟩
/-- One list more. -/
theorem PM.more {W X w3 w4 w5 : World} {ll : List (List PlP)} {lp : Nat → Nat → Option Addr} {lc : Nat → Nat → Nat} {n : Nat} {tv sv tv' sv' v7 v8 : Value} {rv qv : Nat → Value} {pb : Nat → Nat → Nat} {l : List PlP} {pc : Nat → Nat} {o o' : Obj} (h : PM W X ll lp lc n tv sv rv qv pb) (hl : ll[n]? = some l) (hB : PB X w3 l (lp n) (lc n) pc l.length v7 v8)
    (r1 : w4.ownsRow W.heap.size 59 1 tv' (n + 1) ((List.range n).map rv ++ [v7])) (r2 : (w3.alloc o).grownBy w4 tv.ownBlock) (s1 : w5.ownsRow W.heap.size 46 1 sv' (n + 1) ((List.range n).map qv ++ [v8])) (s2 : (w4.alloc o').grownBy w5 sv.ownBlock) : PM W w5 ll lp lc (n + 1) tv' sv' (updV rv n v7) (updV qv n v8) (updV pb n pc) := by
  have sz := h.chg.size
  have c3 := hB.chg
  have c4 : Chg (fun k => tv.ownBlock = some k) w3 w4 := ((Chg.refl (fun k => tv.ownBlock = some k) w3).alloc o).grown r2 (fun k e _ => e)
  have c5 : Chg (fun k => sv.ownBlock = some k) w4 w5 := ((Chg.refl (fun k => sv.ownBlock = some k) w4).alloc o').grown s2 (fun k e _ => e)
  have o1' : w3.ownsRow W.heap.size 59 1 tv n ((List.range n).map rv) := rowB_kept h.o1 (fun g hg => c3.block g (h.o1.lt g hg).2 (fun x => x))
  have o2' : w3.ownsRow W.heap.size 46 1 sv n ((List.range n).map qv) := rowB_kept h.o2 (fun g hg => c3.block g (h.o2.lt g hg).2 (fun x => x))
  have kp : ∀ {k : Nat} {cur : Array Value} {t : TypeId}, w3.heap[k]? = some (.cells cur t (0, 0)) → t ≠ 59 → t ≠ 46 → w5.heap[k]? = some (.cells cur t (0, 0)) := fun {k cur t} hk t1 t2 => by
    have a4 : w4.heap[k]? = some (.cells cur t (0, 0)) := (c4.block _ (lt_of hk) (fun e => by obtain ⟨_, cur', hc⟩ := row_typ o1' e; exact typ_ne hk hc t1 rfl)).trans hk
    refine (c5.block _ (lt_of a4) (fun e => ?_)).trans a4
    obtain ⟨_, cur', hc⟩ := row_typ o2' e
    exact typ_ne hk hc t2 rfl
  have kX : ∀ {k : Nat} {cur : Array Value} {t : TypeId}, X.heap[k]? = some (.cells cur t (0, 0)) → t ≠ 59 → t ≠ 46 → w5.heap[k]? = some (.cells cur t (0, 0)) := fun hk t1 t2 => kp ((c3.block _ (lt_of hk) (fun x => x)).trans hk) t1 t2
  have en : ∀ {α : Type} (f : Nat → α) (x : α), updV f n x n = x := fun f x => by unfold updV; rw [if_pos rfl]
  have eo : ∀ {α : Type} (f : Nat → α) (x : α) (i : Nat), i < n → updV f n x i = f i := fun f x i hi => by unfold updV; rw [if_neg (by omega)]
  refine ⟨?_, ?_, fun i l' hi hl' => ?_, fun i l' hi hl' => ?_, fun i l' j q hi hl' hq hn => ?_, fun i i' l1 l2 j j' q q' hi hi' h1 h2 h3 h4 h5 h6 h7 => ?_, ((h.chg.trans c3 (H := fun _ => False) (fun _ _ x => x) (fun _ _ x => x)).trans c4 (H := fun _ => False) (fun _ _ x => x) (fun k hk e => by have := (o1'.lt k e).1; omega)).trans c5 (fun _ _ x => x) (fun k hk e => by have := (o2'.lt k e).1; omega)⟩
  · rw [List.range_succ, List.map_append, range_updV, List.map_cons, List.map_nil, en]
    refine rowB_kept r1 (fun g hg => ?_)
    obtain ⟨_, cur, hc⟩ := row_typ r1 hg
    refine c5.block g (lt_of hc) (fun e => ?_)
    obtain ⟨_, cur', hc'⟩ := row_typ o2' e
    have hc4 : w4.heap[g]? = some (.cells cur' 46 (0, 0)) := (c4.block _ (lt_of hc') (fun e => by obtain ⟨_, cur2, hc2⟩ := row_typ o1' e; exact typ_ne hc' hc2 (by decide) rfl)).trans hc'
    exact typ_ne hc hc4 (by decide) rfl
  · rw [List.range_succ, List.map_append, range_updV, List.map_cons, List.map_nil, en]
    exact s1
  · by_cases e : i = n
    · subst e
      rw [hl] at hl'; injection hl' with hl'; subst hl'
      rw [en, en]
      exact row_up (rowB_kept hB.r7 (fun g hg => by obtain ⟨_, cur, hc⟩ := row_typ hB.r7 hg; exact (kp hc (by decide) (by decide)).trans hc.symm)) sz
    · rw [eo _ _ i (by omega), eo _ _ i (by omega)]
      have hr := h.r1 i l' (by omega) hl'
      exact rowB_kept hr (fun g hg => by obtain ⟨_, cur, hc⟩ := row_typ hr hg; exact (kX hc (by decide) (by decide)).trans hc.symm)
  · by_cases e : i = n
    · subst e
      rw [hl] at hl'; injection hl' with hl'; subst hl'
      rw [en, en]
      exact row_up (rowB_kept hB.r8 (fun g hg => by obtain ⟨_, cur, hc⟩ := row_typ hB.r8 hg; exact (kp hc (by decide) (by decide)).trans hc.symm)) sz
    · rw [eo _ _ i (by omega), eo _ _ i (by omega)]
      have hr := h.r2 i l' (by omega) hl'
      exact rowB_kept hr (fun g hg => by obtain ⟨_, cur, hc⟩ := row_typ hr hg; exact (kX hc (by decide) (by decide)).trans hc.symm)
  · by_cases e : i = n
    · subst e
      rw [hl] at hl'; injection hl' with hl'; subst hl'
      rw [en]
      have hp := hB.pr j q ((List.getElem?_eq_some_iff.1 hq).1) hq hn
      exact ⟨kp hp.1 (by decide) (by decide), by omega⟩
    · rw [eo _ _ i (by omega)]
      have hp := h.pr i l' j q (by omega) hl' hq hn
      exact ⟨kX hp.1 (by decide) (by decide), hp.2⟩
  · by_cases e' : i' = n
    · subst e'
      rw [hl] at h2; injection h2 with h2; subst h2
      rw [en]
      by_cases e : i = i'
      · subst e
        rw [hl] at h1; injection h1 with h1; subst h1
        rw [en]
        exact hB.inj j j' q q' (by omega) ((List.getElem?_eq_some_iff.1 h4).1) h3 h4 h5 h6
      · rw [eo _ _ i (by omega)]
        have a1 := lt_of (h.pr i l1 j q (by omega) h1 h3 h5).1
        have a2 := (hB.pr j' q' ((List.getElem?_eq_some_iff.1 h4).1) h4 h6).2
        omega
    · rw [eo _ _ i' (by omega), eo _ _ i (by omega)]
      exact h.inj i i' l1 l2 j j' q q' (by omega) (by omega) h1 h2 h3 h4 h5 h6 h7
set_option maxRecDepth 100000 in
set_option maxHeartbeats 8000000 in
theorem pr_many {V : World} {B : Nat} {p : Option Addr} {ll : List (List PlP)} {ap : Nat → Option Addr} {ac : Nat → Nat} {lps : Nat → Nat → Option Addr} {lcs : Nat → Nat → Nat} {c : Nat} (hP : ThsAt V B p ll ap ac lps lcs) (hB : B ≤ V.heap.size) (hl : ll.length ≤ 1048576) (hls : ∀ l ∈ ll, l.length ≤ 1048576) :
    Calls Try.prog 22 #[.slice p ll.length c] V fun e Y => ∃ tv sv, e = .returned (.tuple #[tv, sv]) ∧ ∃ rv qv pb, PM V Y ll lps lcs ll.length tv sv rv qv pb := by
  obtain ⟨i0, hi0, hz0, hz1, hz2⟩ := info_parts infoPy
  obtain ⟨j0, hj0, hy0, hy1, hy2⟩ := info_parts infoQy
  obtain ⟨k0, hk0, hx0, hx1, hx2⟩ := info_parts infoPsy
  obtain ⟨m0, hm0, hw0, hw1, hw2⟩ := info_parts infoQsy
  have HPT := keepH hP
  have HLS := keepH hls
  have HM0 : Hid (PM V V ll lps lcs 0 (.slice none 0 0) (.slice none 0 0) (fun _ => .nilIface) (fun _ => .nilIface) (fun _ _ => 0)) := PM.start V ll lps lcs _ _ _
  clear hP hls
  go_enter Try.func22, Try.ntmps22
  go_wp2_with fail
  go_loopw [4, 5, 6] (fun s4 s5 s6 wr => ∃ i : Nat, i ≤ ll.length ∧ s6 = .int .i64 (i : Int) ∧ (∃ p4 c4, s4 = .slice p4 i c4) ∧ (∃ p5 c5, s5 = .slice p5 i c5) ∧ Hid (∃ rv qv pb, PM V wr ll lps lcs i s4 s5 rv qv pb)) (fun _ _ s _ => ll.length - (intOf s).toNat)
  case atStart => exact ⟨0, Nat.zero_le _, rfl, ⟨none, 0, rfl⟩, ⟨none, 0, rfl⟩, _, _, _, HM0.out⟩
  case round =>
    obtain ⟨i, hil, rfl, ⟨p4, c4, rfl⟩, ⟨p5, c5, rfl⟩, HX⟩ := hrel
    by_cases hi : i < ll.length
    · have z1 : (i : Int) < (ll.length : Int) := by omega
      obtain ⟨W, hW⟩ : ∃ W, W = wr := ⟨_, rfl⟩
      subst hW
      obtain ⟨rv, qv, pbs, hM⟩ := HX.out
      have HM := keepH hM
      obtain ⟨l, hll⟩ : ∃ l, ll[i]? = some l := ⟨ll[i], List.getElem?_eq_getElem hi⟩
      have HL := keepH hll
      have hl1 : l.length ≤ 1048576 := HLS.out l (List.mem_of_getElem? hll)
      obtain ⟨⟨gb, go, rfl, hgb, hg0⟩, hPl⟩ := HPT.out i l hll
      have HG : Hid (∀ w', Chg (fun _ => False) W w' → w'.cell? ⟨gb, go + i, none⟩ = some (.slice (ap i) l.length (ac i))) := fun w' cw => by
        obtain ⟨⟨gb', go', e', _, hc⟩, _⟩ := (HPT.out.chg hB (HM.out.chg.trans cw (H := fun _ => False) (fun _ _ x => x) (fun _ _ x => x))) i l HL.out
        injection e' with e'
        injection e' with e1 e2 _
        subst e1 e2
        exact hc
      have HP : Hid (PlansAt W B (ap i) l (lps i) (lcs i)) := hPl.chg hB HM.out.chg
      have hBW : B ≤ W.heap.size := Nat.le_trans hB HM.out.chg.size
      obtain ⟨lp, hlp⟩ : ∃ lp, lp = lps i := ⟨_, rfl⟩
      obtain ⟨lc, hlc⟩ : ∃ lc, lc = lcs i := ⟨_, rfl⟩
      rw [← hlp, ← hlc] at HP
      have HLP := keepH hlp
      have HLC := keepH hlc
      obtain ⟨p, hp⟩ : ∃ p, p = ap i := ⟨_, rfl⟩
      rw [← hp] at HP HG
      have cgW := HG.out W (Chg.refl _ _)
      clear HX hM hll hg0 hPl hgb hlp hlc hp
      go_wp2_with fail
      clear cgW
      go_loopw [7, 8, 9] (fun s7 s8 s9 wr => ∃ k : Nat, k ≤ l.length ∧ s9 = .int .i64 (k : Int) ∧ Hid (∃ pb, PB W wr l lp lc pb k s7 s8)) (fun _ _ s _ => l.length - (intOf s).toNat)
      case atStart => exact ⟨0, Nat.zero_le _, rfl, fun _ => 0, World.ownsRow_nil _ _ _ _, World.ownsRow_nil _ _ _ _, fun j q hj => by omega, fun j j' q q' _ h => by omega, Chg.refl _ _⟩
      case round =>
        obtain ⟨k, hkl, rfl, HY⟩ := hrel
        obtain ⟨pb, hPB⟩ := HY.out
        have HB2 := keepH hPB
        have cg := HG.out wr hPB.chg
        clear hPB HY
        by_cases hlt : k < l.length
        · have q1 : (k : Int) < (l.length : Int) := by omega
          obtain ⟨q, hq⟩ : ∃ q, l[k]? = some q := ⟨l[k], List.getElem?_eq_getElem hlt⟩
          obtain ⟨⟨bk, off, rfl, hbk, c0, c1⟩, _⟩ := (HP.out.chg hBW HB2.out.chg) k q hq
          have HQ := keepH hq
          clear hq hbk
          cases hn : q.none with
          | true =>
            rw [hn] at c0
            have HN := keepH hn
            clear hn
            go_wp2_with (at_builtin; refine wpList_append_own_at _ rfl _ _ 59 rfl W.heap.size 77 i0 .nilIface 1 16 Try.underlying59 hi0 hz0 hz1 hz2 rfl (by decide) _ _ _ rfl (HB2.out.r7.alloc _) ⟨_, 0, none⟩ 1 1 [.nilIface] rfl rfl (cells_new _ _ rfl _ _) (by intro u hu; simp at hu; subst hu; rfl) (by unfold maxLen; omega) (by omega) (Nat.le_trans HB2.out.chg.size (by simp)) ?_; intro v7 w7 r1 r2 r3 r4; have HB3 := keepH (HB2.out.skip HQ.out HN.out r1 r2); clear r1 r2 r3 r4)
            go_roundw
            case rel => exact ⟨k + 1, by omega, by first | rfl | go_num, pb, HB3.out⟩
            case measure => simp [intOf]; omega
          | false =>
            rw [hn] at c0
            have HN := keepH hn
            clear hn
            obtain ⟨w4, hw4⟩ : ∃ w4, w4 = wr.alloc (.cells #[.slice (lp k) q.L.length (lc k), .int .i64 0, .slice none 0 0] 49) := ⟨_, rfl⟩
            have HW4 := keepH hw4
            have HR4 : Hid (w4.ownsRow W.heap.size 77 1 u7 k (ifL l pb k) ∧ W.heap.size ≤ w4.heap.size) := by
              have hc : Chg (fun _ => False) wr w4 := by rw [hw4]; exact (Chg.refl _ _).alloc _
              exact ⟨(HB2.out.quiet hc).r7, Nat.le_trans HB2.out.chg.size hc.size⟩
            go_upto_region 14 with fail
            rw [← hw4]
            clear hw4 c0 c1 cg
            go_upto_region 15 with (at_builtin; refine wpList_append_own_at _ rfl _ _ 59 rfl W.heap.size 77 i0 .nilIface 1 16 Try.underlying59 hi0 hz0 hz1 hz2 rfl (by decide) _ _ _ rfl (HR4.out.1.alloc _) ⟨_, 0, none⟩ 1 1 [.iface 50 (.pointer (some ⟨wr.heap.size, 0, none⟩))] rfl rfl (cells_new _ _ rfl _ _) (by intro u hu; simp at hu; subst hu; rfl) (by unfold maxLen; omega) (by omega) (Nat.le_trans HR4.out.2 (by simp)) ?_; intro v7 w7 r1 r2 r3 r4; have HR1 := keepH r1; have HR2 := keepH r2; clear r1 r2 r3 r4)
            have hr8 : w7.ownsRow W.heap.size 50 1 u8 (ptL l pb k).length (ptL l pb k) := by
              have hc : Chg (fun _ => False) wr w4 := by rw [HW4.out]; exact (Chg.refl _ _).alloc _
              have h4 := HB2.out.quiet hc
              refine rowB_kept h4.r8 (fun z hz => ?_)
              obtain ⟨_, cur, hcz⟩ := row_typ h4.r8 hz
              exact (((Chg.refl (fun j => u7.ownBlock = some j) w4).alloc _).grown HR2.out (fun j e _ => e)).block z (lt_of hcz) (fun e => by obtain ⟨_, cur', hc'⟩ := row_typ h4.r7 e; exact typ_ne hcz hc' (by decide) rfl)
            have hpl := ptL_len l pb k
            have HR8 := keepH hr8
            have HSZ : Hid (W.heap.size ≤ w7.heap.size) := by have a1 := HR4.out.2; have a2 := HR2.out.size; rw [World.size_alloc] at a2; show _ ≤ _; omega
            clear hr8
            go_wp2_with (at_builtin; refine wpList_append_own_at _ rfl _ _ 46 rfl W.heap.size 50 j0 (.pointer none) 1 8 Try.underlying46 hj0 hy0 hy1 hy2 rfl (by decide) _ _ _ rfl (HR8.out.alloc _) ⟨_, 0, none⟩ 1 1 [.pointer (some ⟨wr.heap.size, 0, none⟩)] rfl rfl (cells_new _ _ rfl _ _) (by intro u hu; simp at hu; subst hu; rfl) (by unfold maxLen; omega) (by omega) (Nat.le_trans HSZ.out (by simp)) ?_; intro v8 w8 s1 s2 s3 s4; have HB3 := keepH (HB2.out.add HQ.out HN.out HW4.out HR1.out HR2.out s1 s2); clear s1 s2 s3 s4)
            go_roundw
            case rel => exact ⟨k + 1, by omega, by first | rfl | go_num, _, HB3.out⟩
            case measure => simp [intOf]; omega
        · have q1 : ¬ (k : Int) < (l.length : Int) := by omega
          obtain rfl : k = l.length := by omega
          clear hlt hkl
          obtain ⟨p7, c7, rfl⟩ := slice_row HB2.out.r7
          obtain ⟨p8, c8, rfl⟩ := slice_row HB2.out.r8
          have HO1 : Hid (wr.ownsRow V.heap.size 59 1 (.slice p4 i c4) i ((List.range i).map rv)) := rowB_kept HM.out.o1 (fun g hg => HB2.out.chg.block g (HM.out.o1.lt g hg).2 (fun x => x))
          have HVS : Hid (V.heap.size ≤ wr.heap.size) := Nat.le_trans HM.out.chg.size HB2.out.chg.size
          go_upto_region 17 with (at_builtin; refine wpList_append_own_at _ rfl _ _ 60 rfl V.heap.size 59 k0 (.slice none 0 0) 1 24 Try.underlying60 hk0 hx0 hx1 hx2 rfl (by decide) _ _ _ rfl (HO1.out.alloc _) ⟨_, 0, none⟩ 1 1 [.slice p7 l.length c7] rfl rfl (cells_new _ _ rfl _ _) (by intro u hu; simp at hu; subst hu; rfl) (by unfold maxLen; omega) (by omega) (Nat.le_trans HVS.out (by simp)) ?_; intro v4 w4 r1 r2 r3 r4; have HR1 := keepH r1; have HR2 := keepH r2; clear r1 r2 r3 r4)
          have HO2 : Hid (w4.ownsRow V.heap.size 46 1 (.slice p5 i c5) i ((List.range i).map qv)) := by
            have a2 : wr.ownsRow V.heap.size 46 1 (.slice p5 i c5) i ((List.range i).map qv) := rowB_kept HM.out.o2 (fun g hg => HB2.out.chg.block g (HM.out.o2.lt g hg).2 (fun x => x))
            refine rowB_kept a2 (fun g hg => ?_)
            obtain ⟨_, cur, hc⟩ := row_typ a2 hg
            exact (((Chg.refl (fun k => (Value.slice p4 i c4).ownBlock = some k) wr).alloc _).grown HR2.out (fun k e _ => e)).block g (lt_of hc) (fun e => by obtain ⟨_, cur', hc'⟩ := row_typ HO1.out e; exact typ_ne hc hc' (by decide) rfl)
          have HVS4 : Hid (V.heap.size ≤ w4.heap.size) := by have a1 := HVS.out; have a2 := HR2.out.size; rw [World.size_alloc] at a2; show _ ≤ _; omega
          go_wp2_with (at_builtin; refine wpList_append_own_at _ rfl _ _ 40 rfl V.heap.size 46 m0 (.slice none 0 0) 1 24 Try.underlying40 hm0 hw0 hw1 hw2 rfl (by decide) _ _ _ rfl (HO2.out.alloc _) ⟨_, 0, none⟩ 1 1 [.slice p8 (ptL l pb l.length).length c8] rfl rfl (cells_new _ _ rfl _ _) (by intro u hu; simp at hu; subst hu; rfl) (by unfold maxLen; omega) (by omega) (Nat.le_trans HVS4.out (by simp)) ?_; intro v5 w5 s1 s2 s3 s4; have HS1 := keepH s1; have HS2 := keepH s2; clear s1 s2 s3 s4)
          have HB6 : Hid (PB W wr l (lps i) (lcs i) pb l.length (.slice p7 l.length c7) (.slice p8 (ptL l pb l.length).length c8)) := by rw [← HLP.out, ← HLC.out]; exact HB2.out
          have HMM := keepH (HM.out.more HL.out HB6.out HR1.out HR2.out HS1.out HS2.out)
          go_roundw
          case rel => exact ⟨i + 1, by omega, by first | rfl | go_num, slice_row HR1.out, slice_row HS1.out, _, _, _, HMM.out⟩
          case measure => simp [intOf]; omega
    · have z1 : ¬ (i : Int) < (ll.length : Int) := by omega
      obtain rfl : i = ll.length := by omega
      go_wp2_with fail
      go_ret2
      exact ⟨_, _, ⟨by simp, HX.out⟩⟩
end Go.Proofs.Ytnhiodmigmmfgaa
/- A new row of procs; the start. -/
namespace Go.Proofs.Ytnhiodmigmmfgaa
open Go.RowKit Go.Shelf
set_option linter.unusedVariables false

theorem row_base {W : World} {B : Nat} {e : TypeId} {s : Nat} {v : Value} {n : Nat} {xs : List Value} (h : W.ownsRow B e s v n xs) : W.ownsRow 0 e s v n xs := by
  obtain ⟨h0, h1⟩ := h
  refine ⟨h0, ?_⟩
  rcases h1 with h1 | ⟨g, cap, cur, rfl, hB, hg, r⟩
  · exact .inl h1
  · exact .inr ⟨g, cap, cur, rfl, Nat.zero_le _, hg, r⟩
theorem ifL_one (l : List PlP) (pb : Nat → Nat) (i : Nat) : ∀ u ∈ ifL l pb i, u.oneCell' = true := by
  intro u hu
  obtain ⟨j, _, rfl⟩ := List.mem_map.1 hu
  unfold ifV
  split
  · split <;> rfl
  · rfl
end Go.Proofs.Ytnhiodmigmmfgaa
/- The start of a run of plans' procs. -/
namespace Go.Proofs.Ytnhiodmigmmfgaa
open Go.RowKit Go.Shelf
set_option linter.unusedVariables false

def lOf (ll : List (List PlP)) (i : Nat) : List PlP := ll.getD i []
def qOf (ll : List (List PlP)) (i j : Nat) : PlP := (lOf ll i).getD j ⟨true, []⟩
def clOf (ll : List (List PlP)) (i : Nat) : Nat := (lOf ll i).length
def pvOf (ll : List (List PlP)) (pb : Nat → Nat → Nat) (i j : Nat) : Value := ifV (lOf ll i) (pb i) j
def s0Of (ll : List (List PlP)) (lp : Nat → Nat → Option Addr) (lc : Nat → Nat → Nat) (i j : Nat) : PS := ⟨qOf ll i j, lp i j, lc i j, 0, []⟩
def tlOfP (ll : List (List PlP)) (rv : Nat → Value) (pb : Nat → Nat → Nat) : List (Value × List Value) := (List.range ll.length).map fun i => (rv i, ifL (lOf ll i) (pb i) (lOf ll i).length)
/-- The law's own rows: the procs that it keeps, and those that it handed in. -/
def mineS (T : Nat) (sv : Value) (qv : Nat → Value) : Nat → Prop := fun k => sv.ownBlock = some k ∨ ∃ i, i < T ∧ (qv i).ownBlock = some k
theorem lOf_get {ll : List (List PlP)} {i : Nat} (h : i < ll.length) : ll[i]? = some (lOf ll i) := by unfold lOf; rw [List.getD_eq_getElem?_getD, List.getElem?_eq_getElem h]; rfl
theorem qOf_get {ll : List (List PlP)} {i j : Nat} (h : j < clOf ll i) : (lOf ll i)[j]? = some (qOf ll i j) := by unfold qOf; rw [List.getD_eq_getElem?_getD, List.getElem?_eq_getElem h]; rfl
/-- Its lists are the runner's. -/
theorem PM.lists {W X : World} {ll : List (List PlP)} {lp : Nat → Nat → Option Addr} {lc : Nat → Nat → Nat} {tv sv : Value} {rv qv : Nat → Value} {pb : Nat → Nat → Nat} (h : PM W X ll lp lc ll.length tv sv rv qv pb) : Lists X tv (tlOfP ll rv pb) := by
  refine ⟨?_, fun x hx => ?_, fun x hx u hu => ?_⟩
  · have e := row_base h.o1
    have e1 : (tlOfP ll rv pb).length = ll.length := by simp [tlOfP]
    have e2 : (tlOfP ll rv pb).map Prod.fst = (List.range ll.length).map rv := by simp [tlOfP, Function.comp_def]
    rw [e1, e2]
    exact e
  · obtain ⟨i, hi, rfl⟩ := List.mem_map.1 hx
    have hi' := List.mem_range.1 hi
    have e := row_base (h.r1 i (lOf ll i) hi' (lOf_get hi'))
    have e1 : (ifL (lOf ll i) (pb i) (lOf ll i).length).length = (lOf ll i).length := by simp [ifL]
    show X.ownsRow 0 77 1 (rv i) (ifL (lOf ll i) (pb i) (lOf ll i).length).length _
    rw [e1]
    exact e
  · obtain ⟨i, hi, rfl⟩ := List.mem_map.1 hx
    exact ifL_one _ _ _ u hu
theorem gr_start {W V W3 X Y : World} {F G S0 : Nat → Prop} {r m b next : Nat} {tv0 sv tv : Value} {rv qv : Nat → Value} {pb : Nat → Nat → Nat} {ths : List Thr} {vbs : List Nat} {cs : List Nat} {la : List Acc} {p : Option Addr} {ll : List (List PlP)} {ap : Nat → Option Addr} {ac : Nat → Nat} {lp : Nat → Nat → Option Addr} {lc : Nat → Nat → Nat}
    (hW : Chg (fun _ => False) W V) (hC : Chg (fun _ => False) V W3) (hm : IsMem W3 m b) (hb : Bank W3 F b 200 next cs la) (hla : la.length ≤ 16000000) (hF : ∀ k, F k → V.heap.size ≤ k) (hmW : V.heap.size ≤ m) (nm : ¬ F m) (B : PM W3 X ll lp lc ll.length tv0 sv rv qv pb) (M : Made X Y G r m b tv (tlOfP ll rv pb) ths vbs ll.length) (hl : ths.length = ll.length) (hP : ThsAt W W.heap.size p ll ap ac lp lc) (hL : ∀ l ∈ ll, ∀ q ∈ l, q.L.length ≤ 1048576) (hS0 : ∀ k, S0 k → k < W3.heap.size ∧ W.heap.size ≤ k ∧ ¬ F k ∧ k ≠ m) :
    GR (plK W.heap.size W) 200 m b ll.length (clOf ll) (fun j => vbs.getD j 0) (pvOf ll pb) ⟨next, cs, la.map Acc.bare, fun _ => 0, s0Of ll lp lc, 0, fun _ => false, [], []⟩ V Y Y (fun k => mineS ll.length sv qv k ∨ mineS ll.length tv0 rv k ∨ S0 k) r := by
  have s0 := hW.size
  have s1 := hC.size
  have s2 := B.chg.size
  have s3 := M.chg.size
  have cY := B.chg.trans M.chg (H := fun _ => False) (fun _ _ x => x) (fun _ _ x => x)
  have lm := hm.lt
  have lF : ∀ k, F k → k < W3.heap.size := hb.ltF
  have hv : ∀ j, j < ll.length → vbs[j]? = some (vbs.getD j 0) := fun j hj => by
    have : j < vbs.length := by rw [M.vl]; exact hj
    simp [List.getElem?_eq_getElem this]
  have vws := fun j (hj : j < ll.length) => M.views j _ (hv j hj)
  have pr : ∀ i j, i < ll.length → j < clOf ll i → (qOf ll i j).none = false → X.heap[pb i j]? = some (.cells #[.slice (lp i j) (qOf ll i j).L.length (lc i j), .int .i64 0, .slice none 0 0] 49 (0, 0)) ∧ W3.heap.size ≤ pb i j := fun i j hi hj hn => B.pr i (lOf ll i) j (qOf ll i j) hi (lOf_get hi) (qOf_get hj) hn
  have inj : ∀ i j i' j', i < ll.length → j < clOf ll i → (qOf ll i j).none = false → i' < ll.length → j' < clOf ll i' → (qOf ll i' j').none = false → pb i j = pb i' j' → i = i' ∧ j = j' := fun i j i' j' hi hj hn hi' hj' hn' e => by
    have key := fun a a' c c' ha hc hn ha' hc' hn' z => B.inj a a' (lOf ll a) (lOf ll a') c c' (qOf ll a c) (qOf ll a' c') ha ha' (lOf_get ha) (lOf_get ha') (qOf_get hc) (qOf_get hc') hn hn' z
    rcases Nat.lt_trichotomy i i' with h | h | h
    · have := key i i' j j' hi hj hn hi' hj' hn' (.inl h); omega
    · subst h
      rcases Nat.lt_trichotomy j j' with h | h | h
      · have := key i i j j' hi hj hn hi' hj' hn' (.inr ⟨rfl, h⟩); omega
      · exact ⟨rfl, h⟩
      · have := key i i j' j hi hj' hn' hi hj hn (.inr ⟨rfl, h⟩); omega
    · have := key i' i j' j hi' hj' hn' hi hj hn (.inl h); omega
  have hvi : ∀ i, i < ll.length → X.heap.size ≤ vbs.getD i 0 ∧ vbs.getD i 0 < Y.heap.size ∧ ¬ G (vbs.getD i 0) := fun i hi => ⟨(vws i hi).2.1, lt_of (vws i hi).1, (vws i hi).2.2⟩
  have hS : ∀ k, (mineS ll.length sv qv k ∨ mineS ll.length tv0 rv k ∨ S0 k) → k < X.heap.size ∧ W.heap.size ≤ k ∧ ¬ F k ∧ k ≠ m ∧ ∀ i j, i < ll.length → j < clOf ll i → (qOf ll i j).none = false → k ≠ pb i j := fun k e => by
    have row : ∀ {tp : TypeId} {cur : Array Value}, W3.heap.size ≤ k → X.heap[k]? = some (.cells cur tp (0, 0)) → tp ≠ 49 → k < X.heap.size ∧ W.heap.size ≤ k ∧ ¬ F k ∧ k ≠ m ∧ ∀ i j, i < ll.length → j < clOf ll i → (qOf ll i j).none = false → k ≠ pb i j := fun z1 z2 tn => ⟨lt_of z2, by omega, fun q => by have := lF k q; omega, fun q => by rw [q] at z1; exact absurd lm (by omega), fun a c ha hc hn q => typ_ne z2 (pr a c ha hc hn).1 tn q⟩
    rcases e with (e | ⟨i, hi, e⟩) | (e | ⟨i, hi, e⟩) | e
    · obtain ⟨z1, cur, z2⟩ := row_typ B.o2 e
      exact row z1 z2 (by decide)
    · obtain ⟨z1, cur, z2⟩ := row_typ (B.r2 i _ hi (lOf_get hi)) e
      exact row z1 z2 (by decide)
    · obtain ⟨z1, cur, z2⟩ := row_typ B.o1 e
      exact row z1 z2 (by decide)
    · obtain ⟨z1, cur, z2⟩ := row_typ (B.r1 i _ hi (lOf_get hi)) e
      exact row z1 z2 (by decide)
    · obtain ⟨z1, z2, z3, z4⟩ := hS0 k e
      exact ⟨by omega, z2, z3, z4, fun a c ha hc hn q => by have := (pr a c ha hc hn).2; omega⟩
  refine ⟨G, fun k => F k ∨ k = m ∨ (∃ i, i < ll.length ∧ k = vbs.getD i 0) ∨ (∃ i j, i < ll.length ∧ j < clOf ll i ∧ (qOf ll i j).none = false ∧ k = pb i j) ∨ k < W.heap.size, vwOf vbs, tv, _, _, ths, M.run, ⟨F, fun i j k => (qOf ll i j).none = false ∧ k = pb i j, fun _ => 0, fun k => open Classical in if k < W3.heap.size then (if F k then .mem else .main) else if k < X.heap.size then (if h : ∃ ij : Nat × Nat, ij.1 < ll.length ∧ ij.2 < clOf ll ij.1 ∧ (qOf ll ij.1 ij.2).none = false ∧ k = pb ij.1 ij.2 then .proc h.choose.1 h.choose.2 else .none) else if h : ∃ j, j < ll.length ∧ vbs.getD j 0 = k then .view h.choose else .none, ⟨⟨la, hb.chg cY (fun _ _ h => h), rfl⟩, hm.chg cY (fun h => h), fun i hi => ⟨(vws i hi).1, Nat.le_refl _⟩, fun i j hi hj => ?_, fun i j hi hj _ => ?_, fun k e => ⟨.inl e, ?_⟩, ⟨.inr (.inl rfl), ?_⟩, fun i hi => ⟨.inr (.inr (.inl ⟨i, hi, rfl⟩)), ?_⟩, fun i j k hi hj e => ⟨.inr (.inr (.inr (.inl ⟨i, j, hi, hj, e.1, e.2⟩))), ?_⟩, fun k e => ?_, by show (la.map Acc.bare).length ≤ 0 + 16000000; simpa using hla, by omega, fun k e => .inr (.inr (.inr (.inr e))), fun k e => ((hW.trans hC (H := fun _ => False) (fun _ _ x => x) (fun _ _ x => x)).trans cY (H := fun _ => False) (fun _ _ x => x) (fun _ _ x => x)).block k e (fun x => x), ⟨fun k e => by have := hF k e; omega, by omega, fun i hi => by have := (hvi i hi).1; omega⟩⟩⟩, fun j e hk => ?_, hl, fun j t ht => ?_, fun j hj => vwOf_get _ _ _ (hv j hj), by simp, fun j e => ?_, hW.size, hC.trans cY (fun _ _ x => x) (fun _ _ x => x), Nat.le_refl _, fun j e => ⟨by have := (hS j e).1; omega, rfl, fun g => by have := M.inG j g; have := (hS j e).1; omega, fun k => ?_⟩⟩
  · show psH W.heap.size Y _ (ifV (lOf ll i) (pb i) j) (s0Of ll lp lc i j)
    refine ⟨fun k e => by have := (pr i j hi hj e.1).2; rw [e.2]; omega, ?_⟩
    have ev : ifV (lOf ll i) (pb i) j = if (qOf ll i j).none = true then .nilIface else .iface 50 (.pointer (some ⟨pb i j, 0, none⟩)) := by unfold ifV; rw [qOf_get hj]
    rw [ev]
    show if (qOf ll i j).none = true then _ else _
    split
    · rename_i hn
      exact ⟨rfl, fun k e => by rw [hn] at e; exact absurd e.1 (by decide)⟩
    · rename_i hn
      have hn' : (qOf ll i j).none = false := by simpa using hn
      refine ⟨pb i j, rfl, ⟨.slice none 0 0, (M.chg.block _ (lt_of (pr i j hi hj hn').1) (fun x => x)).trans (pr i j hi hj hn').1, World.ownsRow_nil _ _ _ _, fun k => ?_⟩⟩
      simp [hn', Value.ownBlock]
  · have hd := ((hP i (lOf ll i) (lOf_get hi)).2 j (qOf ll i j) (qOf_get hj)).2
    exact ⟨hd, hL _ (List.mem_of_getElem? (lOf_get hi)) _ (List.mem_of_getElem? (qOf_get hj)), Nat.zero_le _⟩
  · simp only [if_pos (lF k e), if_pos e]
  · simp only [if_pos lm, if_neg nm]
  · obtain ⟨z1, z2, z3⟩ := hvi i hi
    simp only [if_neg (show ¬ vbs.getD i 0 < W3.heap.size by omega), if_neg (show ¬ vbs.getD i 0 < X.heap.size by omega)]
    have ex : ∃ j, j < ll.length ∧ vbs.getD j 0 = vbs.getD i 0 := ⟨i, hi, rfl⟩
    rw [dif_pos ex]
    congr 1
    obtain ⟨c1, c2⟩ := ex.choose_spec
    exact Decidable.byContradiction fun ne => M.apart _ _ _ _ ne (hv _ c1) (hv _ hi) c2
  · obtain ⟨e1, e2⟩ := e
    subst e2
    have z := pr i j hi hj e1
    simp only [if_neg (show ¬ pb i j < W3.heap.size by omega), if_pos (lt_of z.1)]
    have ex : ∃ ij : Nat × Nat, ij.1 < ll.length ∧ ij.2 < clOf ll ij.1 ∧ (qOf ll ij.1 ij.2).none = false ∧ pb i j = pb ij.1 ij.2 := ⟨(i, j), hi, hj, e1, rfl⟩
    rw [dif_pos ex]
    obtain ⟨c1, c2, c3, c4⟩ := ex.choose_spec
    obtain ⟨d1, d2⟩ := inj _ _ _ _ hi hj e1 c1 c2 c3 c4
    rw [← d1, ← d2]
  · rcases e with e | e | ⟨i, hi, e⟩ | ⟨i, j, hi, hj, hn, e⟩ | e
    · have := lF k e; omega
    · omega
    · have := (hvi i hi).2.1; omega
    · have := lt_of (pr i j hi hj hn).1; omega
    · omega
  · have g := M.inG j e
    rcases hk with z | z | ⟨i, hi, z⟩ | ⟨i, q, hi, hq, hn, z⟩ | z
    · have := lF j z; omega
    · omega
    · rw [z] at e; exact (hvi i hi).2.2 e
    · have := lt_of (pr i q hi hq hn).1; omega
    · omega
  · obtain ⟨x, hx, h1, h2, h3⟩ := M.thr j t ht
    have hj : j < ll.length := by
      have := (List.getElem?_eq_some_iff.1 hx).1
      simpa [tlOfP] using this
    simp [tlOfP, hj] at hx
    subst hx
    rw [h1]
    refine ⟨by simp [ifL, clOf], fun q hq => ?_, by rw [h2], by rw [h3]⟩
    have hq' : q < (lOf ll j).length := hq
    simp [ifL, hq', pvOf]
  · rcases e with e | ⟨e, q⟩
    · have := M.inG j e; omega
    · rcases e with e | e | ⟨i, hi, e⟩ | ⟨i, c, hi, hc, hn, e⟩ | e
      · exact hF j e
      · omega
      · have := (hvi i hi).1; omega
      · have := (pr i c hi hc hn).2; omega
      · omega
  · obtain ⟨y1, y2, y3, y4, y5⟩ := hS j e
    rcases k with z | z | ⟨i, hi, z⟩ | ⟨i, q, hi, hq, hn, z⟩ | z
    · exact y3 z
    · exact y4 z
    · have := (hvi i hi).1; omega
    · exact y5 i q hi hq hn z
    · omega
section
variable {P : Type} {Lo : Nat} {W0 : World} {κ : KindL P Lo W0} {most m b T : Nat} {cl : Nat → Nat} {vb : Nat → Nat} {pv : Nat → Nat → Value} {c : Cfg P} {W Z X Y : World} {S S' : Nat → Prop} {r : Nat}
/-- What is new beside a run is kept by it from now on. -/
theorem GR.rebase (h : GR κ most m b T cl vb pv c W Z X S r) (q : Chg (fun _ => False) X Y) (hS : ∀ k, S' k → S k ∨ (X.heap.size ≤ k ∧ k < Y.heap.size)) : GR κ most m b T cl vb pv c W Y Y S' r := by
  obtain ⟨G, K, vw, tv, ev, av, ths, h⟩ := h
  exact ⟨G, K, vw, tv, ev, av, ths, h.run.kept q.size (fun k e => q.block k (h.run.lt k e) (fun x => x)), h.ma.keep q.size (fun k e => q.block k (h.ma.ltK k e) (fun x => x)), h.apart, h.len, h.thr, h.vws, h.evl, h.inW, h.lo, h.chg.trans q (fun _ _ x => x) (fun _ _ x => x), Nat.le_refl _, fun j hj => by
    rcases hS j hj with e | e
    · exact ⟨Nat.lt_of_lt_of_le (h.keep j e).1 q.size, rfl, (h.keep j e).2.2⟩
    · exact ⟨e.2, rfl, fun g => by have := h.run.lt j g; omega, fun g => by have := h.ma.ltK j g; omega⟩⟩
/-- What a run keeps may be changed by others. -/
theorem GR.drop (h : GR κ most m b T cl vb pv c W Z X S r) {H : Nat → Prop} (q : Chg H X Y) (hH : ∀ k, H k → S k ∧ W.heap.size ≤ k) (hS : ∀ k, S' k → S k ∧ ¬ H k) : GR κ most m b T cl vb pv c W Z Y S' r := by
  obtain ⟨G, K, vw, tv, ev, av, ths, h⟩ := h
  refine ⟨G, K, vw, tv, ev, av, ths, h.run.kept q.size (fun k e => q.block k (h.run.lt k e) (fun z => (h.keep k (hH k z).1).2.2.1 e)), h.ma.keep q.size (fun k e => q.block k (h.ma.ltK k e) (fun z => (h.keep k (hH k z).1).2.2.2 e)), h.apart, h.len, h.thr, h.vws, h.evl, h.inW, h.lo, h.chg.trans q (fun _ _ x => x) (fun k hk z => by have := (hH k z).2; omega), Nat.le_trans h.zs q.size, fun j hj => ?_⟩
  obtain ⟨s1, s2⟩ := hS j hj
  exact ⟨Nat.lt_of_lt_of_le (h.keep j s1).1 q.size, (q.block j (h.keep j s1).1 s2).trans (h.keep j s1).2.1, (h.keep j s1).2.2⟩
end
end Go.Proofs.Ytnhiodmigmmfgaa
/- The events of any run are a history, in plain words. -/
namespace Go.Proofs.Ytnhiodmigmmfgaa
open Go.RowKit Go.Shelf
set_option linter.unusedVariables false

/-- How many calls of a thread there are; is its last one open? -/
def evC (l : List Ev) (t : Int) : Nat := (l.filter (fun e => decide (e.th = t) && !e.ret)).length
def evO (l : List Ev) (t : Int) : Bool := l.foldl (fun o e => if e.th = t then !e.ret else o) false
theorem evC_snoc (l : List Ev) (e : Ev) (t : Int) : evC (l ++ [e]) t = evC l t + (if e.th = t ∧ e.ret = false then 1 else 0) := by
  unfold evC
  rw [List.filter_append, List.length_append]
  congr 1
  by_cases h1 : e.th = t
  · cases h2 : e.ret <;> simp [h1, h2]
  · simp [h1]
theorem evO_snoc (l : List Ev) (e : Ev) (t : Int) : evO (l ++ [e]) t = if e.th = t then !e.ret else evO l t := by
  unfold evO
  rw [List.foldl_append]
  rfl
/-- The event e lies rightly behind the events l. -/
structure EvOk (l : List Ev) (e : Ev) : Prop where
  st : 0 ≤ e.st
  ret : e.ret = evO l e.th
  ix : e.ix = if evO l e.th = true then (evC l e.th : Int) - 1 else (evC l e.th : Int)
  prev : ∀ p, l.getLast? = some p → p.st ≤ e.st ∧ (p.st = e.st → e.ret = true ∧ p.ret = false ∧ p.th = e.th)
def HistOk (l : List Ev) : Prop := ∀ i e, l[i]? = some e → EvOk (l.take i) e
theorem HistOk.snoc {l : List Ev} {e : Ev} (h : HistOk l) (he : EvOk l e) : HistOk (l ++ [e]) := by
  intro i x hx
  by_cases hi : i < l.length
  · rw [List.getElem?_append_left hi] at hx
    rw [List.take_append_of_le_length (by omega)]
    exact h i x hx
  · have hl := (List.getElem?_eq_some_iff.1 hx).1
    simp at hl
    obtain rfl : i = l.length := by omega
    simp at hx
    subst hx
    rw [List.take_left']
    · exact he
    · rfl
structure HInv {P : Type} (c : Cfg P) : Prop where
  ok : HistOk c.evs
  cnt : ∀ t : Nat, evC c.evs (t : Int) = c.ix t + (if c.bg t = true then 1 else 0)
  opn : ∀ t : Nat, evO c.evs (t : Int) = c.bg t
  lt : ∀ e ∈ c.evs, e.st < (c.st : Int)
section
variable {P : Type} {Lo : Nat} {W0 : World} {κ : KindL P Lo W0} {most T : Nat} {cl : Nat → Nat} {c : Cfg P}
theorem last_mem {l : List Ev} {p : Ev} (h : l.getLast? = some p) : p ∈ l := List.mem_of_getLast? h
theorem HInv.go (h : HInv c) (i : Nat) : HInv (c.go κ most i).tick := by
  obtain ⟨d, hd⟩ : ∃ d, d = (c.out κ most i).done := ⟨_, rfl⟩
  obtain ⟨e1, he1⟩ : ∃ e1, e1 = (if c.bg i = true then c.evs else c.evs ++ [⟨(c.st : Int), (i : Int), (c.ix i : Int), false⟩]) := ⟨_, rfl⟩
  have key : HistOk e1 ∧ (∀ t : Nat, evC e1 (t : Int) = if t = i then c.ix i + 1 else c.ix t + (if c.bg t = true then 1 else 0)) ∧ (∀ t : Nat, evO e1 (t : Int) = if t = i then true else c.bg t) ∧ (∀ e ∈ e1, e.st ≤ (c.st : Int)) ∧ ∀ p, e1.getLast? = some p → p.st = (c.st : Int) → p.ret = false ∧ p.th = (i : Int) := by
    cases hb : c.bg i with
    | true =>
      rw [hb] at he1
      simp only [if_true] at he1
      subst he1
      refine ⟨h.ok, fun t => ?_, fun t => ?_, fun e he => by have := h.lt e he; omega, fun p hp e => by have := h.lt p (last_mem hp); omega⟩
      · rw [h.cnt t]
        by_cases e : t = i
        · subst e; rw [hb]; simp
        · rw [if_neg e]
      · rw [h.opn t]
        split
        · rename_i e; subst e; exact hb
        · rfl
    | false =>
      rw [hb] at he1
      simp only [Bool.false_eq_true, if_false] at he1
      subst he1
      refine ⟨h.ok.snoc ⟨by simp only; omega, by simp only; rw [h.opn i, hb], ?_, fun p hp => ?_⟩, fun t => ?_, fun t => ?_, fun e he => ?_, fun p hp _ => ?_⟩
      · simp only
        rw [h.opn i, hb, h.cnt i, hb]
        simp
      · have := h.lt p (last_mem hp)
        exact ⟨by simp only; omega, fun e => by simp only at e; omega⟩
      · rw [evC_snoc, h.cnt t]
        by_cases e : t = i
        · subst e; simp [hb]
        · rw [if_neg e]
          have : ¬ ((i : Int) = (t : Int) ∧ false = false) := fun z => e (by omega)
          simp only at this ⊢
          rw [if_neg this]
          rfl
      · rw [evO_snoc, h.opn t]
        by_cases e : t = i
        · subst e; simp
        · rw [if_neg e, if_neg (show ¬ (i : Int) = (t : Int) from fun z => e (by omega))]
      · rcases List.mem_append.1 he with q | q
        · have := h.lt e q; omega
        · simp at q; subst q; simp
      · rw [List.getLast?_append] at hp
        simp at hp
        subst hp
        exact ⟨rfl, rfl⟩
  obtain ⟨k1, k2, k3, k4, k5⟩ := key
  have hev : (c.go κ most i).tick.evs = e1 ++ (if d = true then [⟨(c.st : Int), (i : Int), (c.ix i : Int), true⟩] else []) := by
    show evsOf c i (c.out κ most i).done = _
    unfold evsOf
    rw [he1, hd]
  have hix : ∀ t, (c.go κ most i).tick.ix t = if t = i then (if d = true then c.ix i + 1 else c.ix i) else c.ix t := fun t => by
    show updN c.ix i _ t = _
    unfold updN
    rw [hd]
  have hbg : ∀ t, (c.go κ most i).tick.bg t = if t = i then !d else c.bg t := fun t => by
    show updN c.bg i _ t = _
    unfold updN
    rw [hd]
  have hst : (c.go κ most i).tick.st = c.st + 1 := rfl
  cases d with
  | true =>
    simp only [if_true] at hev hix
    have hok : HistOk (e1 ++ [⟨(c.st : Int), (i : Int), (c.ix i : Int), true⟩]) := by
      refine k1.snoc ⟨by simp only; omega, by simp only; rw [k3 i]; simp, ?_, fun p hp => ?_⟩
      · simp only
        rw [k3 i, k2 i]
        simp
      · have a1 := k4 p (last_mem hp)
        exact ⟨a1, fun e => ⟨rfl, k5 p hp e⟩⟩
    refine ⟨by rw [hev]; exact hok, fun t => ?_, fun t => ?_, fun e he => ?_⟩
    · rw [hev, evC_snoc, k2 t, hix t, hbg t]
      by_cases e : t = i
      · subst e; simp
      · simp [e]
    · rw [hev, evO_snoc, k3 t, hbg t]
      by_cases e : t = i
      · subst e; simp
      · rw [if_neg e, if_neg e, if_neg (show ¬ (i : Int) = (t : Int) from fun z => e (by omega))]
    · rw [hev] at he
      rw [hst]
      rcases List.mem_append.1 he with q | q
      · have := k4 e q; omega
      · simp at q; subst q; simp only; omega
  | false =>
    simp only [Bool.false_eq_true, if_false, List.append_nil] at hev hix
    refine ⟨by rw [hev]; exact k1, fun t => ?_, fun t => ?_, fun e he => ?_⟩
    · rw [hev, k2 t, hix t, hbg t]
      by_cases e : t = i
      · subst e; simp
      · simp [e]
    · rw [hev, k3 t, hbg t]
      rfl
    · rw [hev] at he
      rw [hst]
      have := k4 e he; omega
theorem HInv.tick (h : HInv c) : HInv c.tick := ⟨h.ok, h.cnt, h.opn, fun e he => by have := h.lt e he; show e.st < ((c.st + 1 : Nat) : Int); omega⟩
theorem HInv.pick (h : HInv c) (th : Int) : HInv (c.pick κ most T cl th) := by
  unfold Cfg.pick
  split
  · exact h.go _
  · exact h.tick
theorem HInv.run (h : HInv c) (l : List Int) : HInv (c.run κ most T cl l) := by
  unfold Cfg.run
  induction l generalizing c with
  | nil => exact h
  | cons th r ih => exact ih (h.pick th)
end
end Go.Proofs.Ytnhiodmigmmfgaa
/- SameUint64s, SameAccesses with values. -/
namespace Go.Proofs.Ytnhiodmigmmfgaa
open Go.RowKit Go.Shelf
set_option linter.unusedVariables false

theorem drewN_addY (W : World) (a b : Nat) : W.drewN (a + b) = (W.drewN a).drewN b := by simp [World.drewN, Nat.add_assoc]
def UReads (W : World) (p : Option Addr) (xs : List Nat) : Prop :=
  xs = [] ∨ ∃ bk off, p = some ⟨bk, off, none⟩ ∧ bk < W.heap.size ∧ ∀ (i x : Nat), xs[i]? = some x → W.cell? ⟨bk, off + i, none⟩ = some (.int .u64 (x : Int))
theorem UReads.get {W : World} {p : Option Addr} {xs : List Nat} (h : UReads W p xs) (i x : Nat) (hx : xs[i]? = some x) : ∃ bk off, p = some ⟨bk, off, none⟩ ∧ bk < W.heap.size ∧ W.cell? ⟨bk, off + i, none⟩ = some (.int .u64 (x : Int)) := by
  rcases h with rfl | ⟨bk, off, rfl, hb, h⟩
  · simp at hx
  · exact ⟨bk, off, rfl, hb, h i x hx⟩
theorem UReads.up {W X : World} {p : Option Addr} {xs : List Nat} {F : Nat → Prop} (h : UReads W p xs) (hc : Chg F W X) (hF : ∀ b, F b → W.heap.size ≤ b) : UReads X p xs := by
  rcases h with rfl | ⟨bk, off, rfl, hb, h⟩
  · exact .inl rfl
  · exact .inr ⟨bk, off, rfl, Nat.lt_of_lt_of_le hb hc.size, fun i x hx => cell_chg hc (h i x hx) (fun e => by
      have := hF _ e
      simp at this
      omega)⟩
theorem add_plain (bk off i : Nat) : (⟨bk, off, none⟩ : Addr).add i = ⟨bk, off + i, none⟩ := by
  unfold Addr.add
  split <;> simp
theorem UReads.of_reads {W : World} {p : Option Addr} {xs : List Nat} (h : Reads W p xs) (hl : ∀ q, p = some q → xs ≠ [] → q.block < W.heap.size) : UReads W p xs := by
  rcases Classical.em (xs = []) with e | e
  · exact .inl e
  · rcases h with h | ⟨ad, rfl, h⟩
    · exact absurd h e
    · obtain ⟨bk, off, spot⟩ := ad
      obtain ⟨x, r, rfl⟩ := List.exists_cons_of_ne_nil e
      have c0 := h 0 (u64V x) (by simp)
      have hspot : spot = none := by simpa [Addr.add] using World.cell?_spot c0
      subst hspot
      refine .inr ⟨bk, off, rfl, hl _ rfl e, fun i y hy => ?_⟩
      rw [← add_plain]
      exact h i (u64V y) (by rw [List.getElem?_map, hy]; rfl)
theorem UReads.of_row {W : World} {p : Option Addr} {c : Nat} {vals : List Nat} (h : W.ownsRow 0 30 1 (.slice p vals.length c) vals.length (vals.map u64V)) : UReads W p vals :=
  UReads.of_reads (Reads.of_row h) (fun q hq _ => by subst hq; exact row_lt h _ rfl)

set_option maxRecDepth 100000 in
set_option maxHeartbeats 2000000 in
theorem s_sameUq (p q : Option Addr) (c d : Nat) (la : List Nat) (W : World) (ha : UReads W p la) (hb : UReads W q la) (hla : la.length ≤ 17592186043904) :
    Calls Try.prog 9 #[.slice p la.length c, .slice q la.length d] W fun e W' => e = .returned (.bool true) ∧ ∃ n, W' = W.drewN n := by
  have HA := keepH ha
  have HB := keepH hb
  clear ha hb
  go_enter Try.func9, Try.ntmps9
  go_wp2_with fail
  go_loopw [5] (fun s wr => ∃ k : Nat, k ≤ la.length ∧ s = .int .i64 (k : Int) ∧ Hid (∃ n, wr = W.drewN n)) (fun s _ => la.length - (intOf s).toNat)
  case atStart => exact ⟨0, by omega, rfl, keepH ⟨0, rfl⟩⟩
  case round =>
    obtain ⟨k, hk, rfl, HK⟩ := hrel
    by_cases hlt : k < la.length
    · have t1 : (k : Int) < (la.length : Int) := by omega
      obtain ⟨x, hx⟩ : ∃ x, la[k]? = some x := ⟨la[k], List.getElem?_eq_getElem hlt⟩
      obtain ⟨bk, off, rfl, _, c0⟩ := (HA.out.up (X := wr) (F := fun _ => False) (by obtain ⟨n, e⟩ := HK.out; rw [e]; exact drewN_chgY W n) (fun _ x => x.elim)).get k x hx
      obtain ⟨bk', off', rfl, _, d0⟩ := (HB.out.up (X := wr) (F := fun _ => False) (by obtain ⟨n, e⟩ := HK.out; rw [e]; exact drewN_chgY W n) (fun _ x => x.elim)).get k x hx
      obtain ⟨z, hz⟩ : ∃ z : Int, z = (x : Int) := ⟨_, rfl⟩
      rw [← hz] at c0 d0
      clear hx hz
      go_wp2_with fail
      go_quiet (fail)
      go_wp2_with fail
      go_roundw
      case rel => exact ⟨k + 1, by omega, by first | rfl | go_num, keepH (by obtain ⟨n, e⟩ := HK.out; exact ⟨n + nq, by rw [e, drewN_addY]⟩)⟩
      case measure => simp [intOf]; omega
    · obtain rfl : k = la.length := by omega
      have t1 : ¬ (la.length : Int) < (la.length : Int) := by omega
      go_wp2_with fail
      go_ret
      exact ⟨by simp, HK.out⟩

end Go.Proofs.Ytnhiodmigmmfgaa
/- The document's runner (shutterref04): what lies in memory; a new one. -/
namespace Go.Proofs.Ytnhiodmigmmfgaa
open Go.RowKit Go.Shelf
set_option linter.unusedVariables false

def intR (f : Nat → Nat) (T : Nat) : Array Value := ((List.range T).map (fun i => Value.int .i64 (f i : Int))).toArray
def valR (f : Nat → Value) (T : Nat) : Array Value := ((List.range T).map f).toArray
/-- The document's runner: its memory, each thread's call and how many steps that took; what it wrote down is its own. -/
structure D4At (X : World) (B : Nat) (tg : Nat → Nat) (r nm T st gc ga gg : Nat) (p : Option Addr) (c8 : Nat) (ev wv : Value) (es : List Ev) (ws : List Int) (gv : Nat → Value) (gl : Nat → List Nat) (R : Nat → Prop) (m : Mu) (t : List Acc) (call at_ : Nat → Nat) : Prop where
  blk : X.heap[r]? = some (.cells #[.pointer (some ⟨nm, 0, none⟩), .slice p T c8, .slice (some ⟨gc, 0, none⟩) T T, .slice (some ⟨ga, 0, none⟩) T T, .int .i64 (st : Int), ev, wv, .slice (some ⟨gg, 0, none⟩) T T] 115 (0, 0))
  cb : X.heap[gc]? = some (.cells (intR call T) 3 (0, 0))
  ab : X.heap[ga]? = some (.cells (intR at_ T) 3 (0, 0))
  gb : X.heap[gg]? = some (.cells (valR gv T) 31 (0, 0))
  er : X.ownsRow 0 99 4 ev es.length (evRow es)
  wr : X.ownsRow 0 3 1 wv ws.length (ws.map i64V)
  gr : ∀ i, i < T → X.ownsRow 0 30 1 (gv i) (gl i).length ((gl i).map u64V)
  rm : RM X R nm 200 m.next m.cs t
  tr : tg r = 1
  tc : tg gc = 2
  ta : tg ga = 3
  tG : tg gg = 4
  te : ∀ k, ev.ownBlock = some k → tg k = 5
  tw : ∀ k, wv.ownBlock = some k → tg k = 6
  tR : ∀ k, R k → tg k = 7
  tg_ : ∀ i k, i < T → (gv i).ownBlock = some k → tg k = 8 + i
  lo : ∀ k, tg k ≠ 0 → B ≤ k ∧ k < X.heap.size
  bd : es.length ≤ 2 * st ∧ ws.length ≤ t.length ∧ (∀ i, i < T → (gl i).length ≤ st) ∧ t.length ≤ st + 1 ∧ m.next ≤ 200 ∧ T ≤ 64
/-- All but what bears the tag x stays. -/
theorem D4At.keep {X Y : World} {B : Nat} {tg : Nat → Nat} {r nm T st gc ga gg : Nat} {p : Option Addr} {c8 : Nat} {ev wv : Value} {es : List Ev} {ws : List Int} {gv : Nat → Value} {gl : Nat → List Nat} {R : Nat → Prop} {m : Mu} {t : List Acc} {call at_ : Nat → Nat} (h : D4At X B tg r nm T st gc ga gg p c8 ev wv es ws gv gl R m t call at_) (hs : X.heap.size ≤ Y.heap.size) (hk : ∀ k, tg k ≠ 0 → Y.heap[k]? = X.heap[k]?) : D4At Y B tg r nm T st gc ga gg p c8 ev wv es ws gv gl R m t call at_ := by
  obtain ⟨l, hl1, hl2⟩ := h.rm
  obtain ⟨nc, av, os, hl1⟩ := hl1
  exact ⟨(hk r (by rw [h.tr]; decide)).trans h.blk, (hk gc (by rw [h.tc]; decide)).trans h.cb, (hk ga (by rw [h.ta]; decide)).trans h.ab, (hk gg (by rw [h.tG]; decide)).trans h.gb, row_kept h.er (fun k e => hk k (by rw [h.te k e]; decide)), row_kept h.wr (fun k e => hk k (by rw [h.tw k e]; decide)), fun i hi => row_kept (h.gr i hi) (fun k e => hk k (by rw [h.tg_ i k hi e]; omega)), ⟨l, ⟨nc, av, os, hl1.kept hs (fun k e => hk k (by rw [h.tR k e]; decide))⟩, hl2⟩, h.tr, h.tc, h.ta, h.tG, h.te, h.tw, h.tR, h.tg_, fun k e => ⟨(h.lo k e).1, by have := (h.lo k e).2; omega⟩, h.bd⟩
def D4 (X : World) (B r nm T st : Nat) (p : Option Addr) (c8 : Nat) (call at_ : Nat → Nat) (K : Nat → Prop) : Prop := ∃ tg gc ga gg ev wv es ws gv gl R m t, D4At X B tg r nm T st gc ga gg p c8 ev wv es ws gv gl R m t call at_ ∧ ∀ k, tg k ≠ 0 → K k
theorem D4.keep {X Y : World} {B r nm T st : Nat} {p : Option Addr} {c8 : Nat} {call at_ : Nat → Nat} {K : Nat → Prop} (h : D4 X B r nm T st p c8 call at_ K) (hs : X.heap.size ≤ Y.heap.size) (hk : ∀ k, K k → Y.heap[k]? = X.heap[k]?) : D4 Y B r nm T st p c8 call at_ K := by
  obtain ⟨tg, gc, ga, gg, ev, wv, es, ws, gv, gl, R, m, t, h, hK⟩ := h
  exact ⟨tg, gc, ga, gg, ev, wv, es, ws, gv, gl, R, m, t, h.keep hs (fun k e => hk k (hK k e)), hK⟩
structure R4S where
  st : Nat
  call : Nat → Nat
  at_ : Nat → Nat
  es : List Ev
  ws : List Int
  gl : Nat → List Nat
  m : Mu
  t : List Acc
def D4x (X : World) (B r nm T : Nat) (p : Option Addr) (c8 : Nat) (s : R4S) (K : Nat → Prop) : Prop := ∃ tg gc ga gg ev wv gv R, D4At X B tg r nm T s.st gc ga gg p c8 ev wv s.es s.ws gv s.gl R s.m s.t s.call s.at_ ∧ ∀ k, tg k ≠ 0 → K k
theorem D4x.keep {X Y : World} {B r nm T : Nat} {p : Option Addr} {c8 : Nat} {s : R4S} {K : Nat → Prop} (h : D4x X B r nm T p c8 s K) (hs : X.heap.size ≤ Y.heap.size) (hk : ∀ k, K k → Y.heap[k]? = X.heap[k]?) : D4x Y B r nm T p c8 s K := by
  obtain ⟨tg, gc, ga, gg, ev, wv, gv, R, h, hK⟩ := h
  exact ⟨tg, gc, ga, gg, ev, wv, gv, R, h.keep hs (fun k e => hk k (hK k e)), hK⟩
theorem D4.ex {X : World} {B r nm T st : Nat} {p : Option Addr} {c8 : Nat} {call at_ : Nat → Nat} {K : Nat → Prop} (h : D4 X B r nm T st p c8 call at_ K) : ∃ es ws gl m t, D4x X B r nm T p c8 ⟨st, call, at_, es, ws, gl, m, t⟩ K := by
  obtain ⟨tg, gc, ga, gg, ev, wv, es, ws, gv, gl, R, m, t, h, hK⟩ := h
  exact ⟨es, ws, gl, m, t, tg, gc, ga, gg, ev, wv, gv, R, h, hK⟩
theorem D4x.hid {X : World} {B r nm T : Nat} {p : Option Addr} {c8 : Nat} {s : R4S} {K : Nat → Prop} (h : D4x X B r nm T p c8 s K) : D4 X B r nm T s.st p c8 s.call s.at_ K := by
  obtain ⟨tg, gc, ga, gg, ev, wv, gv, R, h, hK⟩ := h
  exact ⟨tg, gc, ga, gg, ev, wv, s.es, s.ws, gv, s.gl, R, s.m, s.t, h, hK⟩
end Go.Proofs.Ytnhiodmigmmfgaa
/- The document's runner: a new one. -/
namespace Go.Proofs.Ytnhiodmigmmfgaa
open Go.RowKit Go.Shelf
set_option linter.unusedVariables false

section
variable {X Y : World} {B : Nat} {tg : Nat → Nat} {r nm T st gc ga gg : Nat} {p : Option Addr} {c8 : Nat} {ev wv : Value} {es : List Ev} {ws : List Int} {gv : Nat → Value} {gl : Nat → List Nat} {R : Nat → Prop} {m : Mu} {t : List Acc} {call at_ : Nat → Nat}
/-- One number more is written down. -/
theorem D4At.noted (h : D4At X B tg r nm T st gc ga gg p c8 ev wv es ws gv gl R m t call at_) {wv' : Value} {x : Int} {o : Obj} (r1 : Y.ownsRow 0 3 1 wv' (ws.length + 1) (ws.map i64V ++ [.int .i64 x])) (r2 : (X.alloc o).grownBy Y wv.ownBlock) (r4 : wv'.ownBlock = wv.ownBlock ∨ wv'.ownBlock = some (X.alloc o).heap.size) (hB : B ≤ X.heap.size) (hl : ws.length + 1 ≤ t.length) :
    D4At (Y.setCell ⟨r, 6, none⟩ wv') B (fun k => if k < X.heap.size then tg k else if wv'.ownBlock = some k then 6 else 0) r nm T st gc ga gg p c8 ev wv' es (ws ++ [x]) gv gl R m t call at_ := by
  have c : Chg (fun k => wv.ownBlock = some k) X Y := ((Chg.refl (fun k => wv.ownBlock = some k) X).alloc o).grown r2 (fun k e _ => e)
  have sz := c.size
  have lt : ∀ k, tg k ≠ 0 → k < X.heap.size := fun k e => (h.lo k e).2
  have ky : ∀ k, tg k ≠ 0 → tg k ≠ 6 → Y.heap[k]? = X.heap[k]? := fun k e e6 => c.block k (lt k e) (fun q => e6 (h.tw k q))
  have kz : ∀ k, tg k ≠ 0 → tg k ≠ 6 → tg k ≠ 1 → (Y.setCell ⟨r, 6, none⟩ wv').heap[k]? = X.heap[k]? := fun k e e6 e1 => (Below.heap_setCell _ _ _ k (fun q => e1 (by rw [show k = r from q]; exact h.tr))).trans (ky k e e6)
  have wlt : ∀ k, wv'.ownBlock = some k → k < Y.heap.size := fun k e => row_lt r1 k e
  have wr_ : ∀ k, wv'.ownBlock = some k → k < X.heap.size → tg k = 6 := fun k e hk => by
    rcases r4 with q | q
    · exact h.tw k (q ▸ e)
    · rw [q] at e; simp at e; omega
  have old : ∀ k, tg k ≠ 0 → (fun k => if k < X.heap.size then tg k else if wv'.ownBlock = some k then 6 else 0) k = tg k := fun k e => by simp only [if_pos (lt k e)]
  obtain ⟨l, ⟨nc, av, os, hl1⟩, hl2⟩ := h.rm
  have b := h.bd
  have hszz : (Y.setCell ⟨r, 6, none⟩ wv').heap.size = Y.heap.size := by simp [World.setCell]
  refine ⟨?_, (kz gc (by rw [h.tc]; decide) (by rw [h.tc]; decide) (by rw [h.tc]; decide)).trans h.cb, (kz ga (by rw [h.ta]; decide) (by rw [h.ta]; decide) (by rw [h.ta]; decide)).trans h.ab, (kz gg (by rw [h.tG]; decide) (by rw [h.tG]; decide) (by rw [h.tG]; decide)).trans h.gb, row_kept h.er (fun k e => kz k (by rw [h.te k e]; decide) (by rw [h.te k e]; decide) (by rw [h.te k e]; decide)), ?_, fun i hi => row_kept (h.gr i hi) (fun k e => kz k (by rw [h.tg_ i k hi e]; omega) (by rw [h.tg_ i k hi e]; omega) (by rw [h.tg_ i k hi e]; omega)), ⟨l, ⟨nc, av, os, hl1.kept (by rw [hszz]; exact sz) (fun k e => kz k (by rw [h.tR k e]; decide) (by rw [h.tR k e]; decide) (by rw [h.tR k e]; decide))⟩, hl2⟩, ?_, ?_, ?_, ?_, fun k e => ?_, fun k e => ?_, fun k e => ?_, fun i k hi e => ?_, fun k e => ?_, ⟨b.1, by simp; omega, b.2.2⟩⟩
  · have hb : Y.heap[r]? = _ := (ky r (by rw [h.tr]; decide) (by rw [h.tr]; decide)).trans h.blk
    rw [set_of hb 6 wv']
    rfl
  · have e1 : Y.ownsRow 0 3 1 wv' (ws ++ [x]).length ((ws ++ [x]).map i64V) := by simpa [i64V] using r1
    refine row_kept e1 (fun k e => Below.heap_setCell _ _ _ k (fun q => ?_))
    have q2 : k = r := q
    have : k < X.heap.size := by rw [q2]; exact lt r (by rw [h.tr]; decide)
    have := wr_ k e this
    rw [q2, h.tr] at this
    omega
  · exact (old r (by rw [h.tr]; decide)).trans (h.tr)
  · exact (old gc (by rw [h.tc]; decide)).trans (h.tc)
  · exact (old ga (by rw [h.ta]; decide)).trans (h.ta)
  · exact (old gg (by rw [h.tG]; decide)).trans (h.tG)
  · exact (old k (by rw [h.te k e]; decide)).trans (h.te k e)
  · by_cases hk : k < X.heap.size
    · simp only [if_pos hk]; exact wr_ k e hk
    · simp only [if_neg hk, if_pos e]
  · exact (old k (by rw [h.tR k e]; decide)).trans (h.tR k e)
  · exact (old k (by rw [h.tg_ i k hi e]; omega)).trans (h.tg_ i k hi e)
  · rw [hszz]
    by_cases hk : k < X.heap.size
    · simp only [if_pos hk] at e
      exact ⟨(h.lo k e).1, by omega⟩
    · simp only [if_neg hk] at e
      split at e
      · rename_i q; exact ⟨by omega, wlt k q⟩
      · exact absurd rfl e
end
end Go.Proofs.Ytnhiodmigmmfgaa
