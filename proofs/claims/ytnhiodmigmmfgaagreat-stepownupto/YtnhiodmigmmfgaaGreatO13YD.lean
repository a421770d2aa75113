/- The document's runner: a new one, walked. -/
import Derived.Test.YtnhiodmigmmfgaaGreatO10YE
import Derived.Test.YtnhiodmigmmfgaaGreatO12Yu
import Derived.Deep.CutRange
namespace Go.Proofs.YtnhiodmigmmfgaaGreat
open Go.RowKit Go.Shelf
set_option linter.unusedVariables false

theorem infoI4 : (Tryz.prog.info? 3).map (fun i => (i.zero, i.size, i.bytes)) = some (some (.int .i64 0), 1, 8) := by kernel_rfl
theorem infoUs4 : (Tryz.prog.info? 110).map (fun i => (i.zero, i.size, i.bytes)) = some (some (.slice none 0 0), 1, 24) := by kernel_rfl
theorem made_ints (n : Nat) : madeCells #[Value.int .i64 0] n = intR (fun _ => 0) n := by
  apply Array.ext'
  rw [toList_madeCells_one]
  simp [intR, List.map_const']
theorem made_vals (n : Nat) : madeCells #[Value.slice none 0 0] n = valR (fun _ => .slice none 0 0) n := by
  apply Array.ext'
  rw [toList_madeCells_one]
  simp [valR, List.map_const']
theorem make_ints4 (n : Nat) (hn : n ≤ 64) (u : World) : (Instr.makeSlice 23 (.int .i64 (n : Int)) (.int .i64 (n : Int))).run Tryz.prog u = .ok (.slice (some ⟨u.heap.size, 0, none⟩) n n) (u.alloc (.cells (intR (fun _ => 0) n) 3)) := by
  obtain ⟨i0, hi, hz0, hz1, hz2⟩ := info_parts infoI4
  have h := run_make (P := Tryz.prog) u 23 3 i0 (.int .i64 0) Tryz.underlying23 hi hz0 .i64 .i64 (n : Int) (n : Int) (by omega) (Int.le_refl _) (by rw [hz2]; omega) (by omega)
  rw [← made_ints]
  simpa [hz1, Value.cells] using h
theorem make_vals4 (n : Nat) (hn : n ≤ 64) (u : World) : (Instr.makeSlice 45 (.int .i64 (n : Int)) (.int .i64 (n : Int))).run Tryz.prog u = .ok (.slice (some ⟨u.heap.size, 0, none⟩) n n) (u.alloc (.cells (valR (fun _ => .slice none 0 0) n) 110)) := by
  obtain ⟨i0, hi, hz0, hz1, hz2⟩ := info_parts infoUs4
  have h := run_make (P := Tryz.prog) u 45 110 i0 (.slice none 0 0) Tryz.underlying45 hi hz0 .i64 .i64 (n : Int) (n : Int) (by omega) (Int.le_refl _) (by rw [hz2]; omega) (by omega)
  rw [← made_vals]
  simpa [hz1, Value.cells] using h
theorem alloc4 (w : World) (a b c d : Obj) : ((((w.alloc a).alloc b).alloc c).alloc d).heap[w.heap.size]? = some a ∧ ((((w.alloc a).alloc b).alloc c).alloc d).heap[w.heap.size + 1]? = some b ∧ ((((w.alloc a).alloc b).alloc c).alloc d).heap[w.heap.size + 1 + 1]? = some c ∧ ((((w.alloc a).alloc b).alloc c).alloc d).heap[w.heap.size + 1 + 1 + 1]? = some d := by
  have s1 : (w.alloc a).heap.size = w.heap.size + 1 := World.size_alloc _ _
  have s2 : ((w.alloc a).alloc b).heap.size = w.heap.size + 1 + 1 := by rw [World.size_alloc, s1]
  have s3 : (((w.alloc a).alloc b).alloc c).heap.size = w.heap.size + 1 + 1 + 1 := by rw [World.size_alloc, s2]
  refine ⟨?_, ?_, ?_, ?_⟩
  · rw [Below.heap_alloc _ _ _ (by omega), Below.heap_alloc _ _ _ (by omega), Below.heap_alloc _ _ _ (by omega)]
    exact heap_alloc_new _ _
  · rw [Below.heap_alloc _ _ _ (by omega), Below.heap_alloc _ _ _ (by omega), ← s1]
    exact heap_alloc_new _ _
  · rw [Below.heap_alloc _ _ _ (by omega), ← s2]
    exact heap_alloc_new _ _
  · rw [← s3]
    exact heap_alloc_new _ _
def tooL (ll : List (List PlP)) : Bool := decide (64 < ll.length) || ll.any (fun l => decide (4096 < l.length))
/-- The four blocks of a new one. -/
structure N4 (X wx : World) (r nm T gc ga gg : Nat) (p : Option Addr) (c8 : Nat) : Prop where
  blk : wx.heap[r]? = some (.cells #[.pointer (some ⟨nm, 0, none⟩), .slice p T c8, .slice (some ⟨gc, 0, none⟩) T T, .slice (some ⟨ga, 0, none⟩) T T, .int .i64 0, .slice none 0 0, .slice none 0 0, .slice (some ⟨gg, 0, none⟩) T T] 104 (0, 0))
  cb : wx.heap[gc]? = some (.cells (intR (fun _ => 0) T) 3 (0, 0))
  ab : wx.heap[ga]? = some (.cells (intR (fun _ => 0) T) 3 (0, 0))
  gb : wx.heap[gg]? = some (.cells (valR (fun _ => .slice none 0 0) T) 110 (0, 0))
  ne : gc ≠ ga
  lo : X.heap.size ≤ r ∧ X.heap.size ≤ gc ∧ X.heap.size ≤ ga ∧ X.heap.size ≤ gg
  chg : Chg (fun _ => False) X wx
set_option maxRecDepth 100000 in
set_option maxHeartbeats 8000000 in
theorem d4_new {X : World} {B nm c8 : Nat} {p : Option Addr} {ll : List (List PlP)} {ap : Nat → Option Addr} {ac : Nat → Nat} {lp : Nat → Nat → Option Addr} {lc : Nat → Nat → Nat} {R : Nat → Prop} {m : Mu} {t : List Acc} (hP : ThsAt X B p ll ap ac lp lc) (hB : B ≤ X.heap.size) (hll : ll.length ≤ 1048576) (hls : ∀ l ∈ ll, l.length ≤ 1048576) (hM : RM X R nm 200 m.next m.cs t) (hR : ∀ k, R k → B ≤ k) (hm : m.next ≤ 200) (ht : t.length ≤ 1) (hb : tooL ll = false) :
    Calls Tryz.prog 32 #[.pointer (some ⟨nm, 0, none⟩), .slice p ll.length c8] X fun e Y => ∃ r, e = .returned (.tuple #[.pointer (some ⟨r, 0, none⟩), .int .i64 0]) ∧ ∃ K, D4x Y B r nm ll.length p c8 ⟨0, fun _ => 0, fun _ => 0, [], List.replicate t.length (-1), fun _ => [], m, t⟩ K ∧ (∀ k, K k → (R k ∨ X.heap.size ≤ k) ∧ k < Y.heap.size) ∧ Chg (fun _ => False) X Y := by
  have hT : ll.length ≤ 64 := by
    unfold tooL at hb
    simp at hb
    omega
  have hL : ∀ l ∈ ll, l.length ≤ 4096 := fun l hl => by
    unfold tooL at hb
    simp at hb
    have := hb.2 l hl
    omega
  have HP := keepH hP
  have HL := keepH hL
  have HM := keepH hM
  have HR := keepH hR
  have hi4 := make_ints4 ll.length hT
  have hv4 := make_vals4 ll.length hT
  have HI4 := keepH hi4
  have HV4 := keepH hv4
  clear hP hls hM hR hb hL hi4 hv4
  go_enter Tryz.func32, Tryz.ntmps32
  go_wp2_with fail
  go_loopw [6] (fun s wx => ∃ i : Nat, i ≤ ll.length ∧ s = .int .i64 (i : Int) ∧ Hid (wx.heap = X.heap ∧ Chg (fun _ => False) X wx)) (fun s _ => ll.length - (intOf s).toNat)
  case atStart => exact ⟨0, Nat.zero_le _, rfl, rfl, Chg.refl _ _⟩
  case round =>
    obtain ⟨i, hil, rfl, HC⟩ := hrel
    obtain ⟨w1, hw1⟩ : ∃ w1, w1 = wr := ⟨_, rfl⟩
    subst hw1
    by_cases hi : i < ll.length
    · have z1 : (i : Int) < (ll.length : Int) := by omega
      obtain ⟨l, hl⟩ : ∃ l, ll[i]? = some l := ⟨ll[i], List.getElem?_eq_getElem hi⟩
      obtain ⟨⟨bk, off, rfl, _, d0⟩, _⟩ := (HP.out.chg hB HC.out.2) i l hl
      have hl4 := HL.out l (List.mem_of_getElem? hl)
      have z2 : ¬ (4096 : Int) < (l.length : Int) := by omega
      clear hl
      go_wp2_with fail
      go_roundw
      case rel => exact ⟨i + 1, by omega, by first | rfl | go_num, HC.out⟩
      case measure => simp [intOf]; omega
    · have z1 : ¬ (i : Int) < (ll.length : Int) := by omega
      have hi4 := HI4.out
      have hv4 := HV4.out
      go_upto_region 10 with fail
      go_cut [7] (fun s7 wx => ∃ r gc ga gg, s7 = .pointer (some ⟨r, 0, none⟩) ∧ Hid (N4 w1 wx r nm ll.length gc ga gg p c8))
      case first =>
        go_region
        all_goals (try go_wp2_with fail)
        all_goals go_meet
        all_goals (refine ⟨_, _, _, _, rfl, ⟨(alloc4 w1 _ _ _ _).2.2.2, ?_, ?_, ?_, by omega, ⟨by omega, by omega, by omega, by omega⟩, ?_⟩⟩)
        all_goals first | exact (alloc4 w1 _ _ _ _).1 | exact (alloc4 w1 _ _ _ _).2.1 | exact (alloc4 w1 _ _ _ _).2.2.1 | exact ((((((Chg.refl (fun _ => False) w1).alloc _).alloc _).alloc _).alloc _).drew)
      case rest =>
        obtain ⟨r, gc, ga, gg, rfl, HN⟩ := hcut
        obtain ⟨w2, hw2⟩ : ∃ w2, w2 = wc := ⟨_, rfl⟩
        subst hw2
        have HCX : Hid (Chg (fun _ => False) X w2) := HC.out.2.trans HN.out.chg (fun _ _ x => x) (fun _ _ x => x)
        have hsz : X.heap.size = w1.heap.size := by rw [HC.out.1]
        have HD : Hid (D4At w2 B (fun k => open Classical in if k = r then 1 else if k = gc then 2 else if k = ga then 3 else if k = gg then 4 else if R k then 7 else 0) r nm ll.length 0 gc ga gg p c8 (.slice none 0 0) (.slice none 0 0) [] [] (fun _ => .slice none 0 0) (fun _ => []) R m t (fun _ => 0) (fun _ => 0)) := by
          have h := HN.out
          obtain ⟨l1, l2, l3, l4⟩ := h.lo
          have rc : gc ≠ r := typ_ne h.cb h.blk (by decide)
          have ra : ga ≠ r := typ_ne h.ab h.blk (by decide)
          have rg : gg ≠ r := typ_ne h.gb h.blk (by decide)
          have gcg : gg ≠ gc := typ_ne h.gb h.cb (by decide)
          have gag : gg ≠ ga := typ_ne h.gb h.ab (by decide)
          have rl : ∀ k, R k → k < X.heap.size := fun k e => HM.out.lt k e
          refine ⟨h.blk, h.cb, h.ab, h.gb, World.ownsRow_nil _ _ _ _, World.ownsRow_nil _ _ _ _, fun i _ => World.ownsRow_nil _ _ _ _, HM.out.chg HCX.out (fun _ _ x => x), ?_, ?_, ?_, ?_, fun k e => by simp [Value.ownBlock] at e, fun k e => by simp [Value.ownBlock] at e, fun k e => ?_, fun i k _ e => by simp [Value.ownBlock] at e, fun k e => ?_, ⟨by simp, by simp, fun _ _ => by simp, by omega, hm, hT⟩⟩
          · simp
          · simp [rc]
          · simp [ra, h.ne.symm]
          · simp [rg, gcg, gag]
          · have := rl k e
            simp [show k ≠ r by omega, show k ≠ gc by omega, show k ≠ ga by omega, show k ≠ gg by omega, e]
          · have lr := lt_of h.blk
            have lgc := lt_of h.cb
            have lga := lt_of h.ab
            have lgg := lt_of h.gb
            have sz := HCX.out.size
            by_cases e1 : k = r
            · omega
            by_cases e2 : k = gc
            · omega
            by_cases e3 : k = ga
            · omega
            by_cases e4 : k = gg
            · omega
            by_cases e5 : R k
            · have := rl k e5; have := HR.out k e5; omega
            · simp [e1, e2, e3, e4, e5] at e
        have HKK : Hid (∀ k, (fun k => open Classical in if k = r then 1 else if k = gc then 2 else if k = ga then 3 else if k = gg then 4 else if R k then 7 else 0) k ≠ 0 → R k ∨ X.heap.size ≤ k) := fun k e => by
          obtain ⟨l1, l2, l3, l4⟩ := HN.out.lo
          by_cases e1 : k = r
          · right; omega
          by_cases e2 : k = gc
          · right; omega
          by_cases e3 : k = ga
          · right; omega
          by_cases e4 : k = gg
          · right; omega
          by_cases e5 : R k
          · exact .inl e5
          · simp [e1, e2, e3, e4, e5] at e
        have HLO : Hid (∀ k, R k → k < X.heap.size) := fun k e => HM.out.lt k e
        clear HM HC HN hi4 hv4
        obtain ⟨j0, hj0, hy0, hy1, hy2⟩ := info_parts infoI4
        go_wp2_with fail
        go_loopw [8] (fun s wx => ∃ k : Nat, k ≤ t.length ∧ s = .int .i64 (k : Int) ∧ Hid (∃ tg wv ws, ws.length = k ∧ ws = List.replicate ws.length (-1) ∧ D4At wx B tg r nm ll.length 0 gc ga gg p c8 (.slice none 0 0) wv [] ws (fun _ => .slice none 0 0) (fun _ => []) R m t (fun _ => 0) (fun _ => 0) ∧ (∀ k, tg k ≠ 0 → R k ∨ X.heap.size ≤ k) ∧ Chg (fun _ => False) X wx)) (fun s _ => t.length - (intOf s).toNat)
        case atStart => exact ⟨0, Nat.zero_le _, rfl, _, _, [], rfl, rfl, HD.out, HKK.out, HCX.out⟩
        case round =>
          obtain ⟨k, hkt, rfl, HX⟩ := hrel
          obtain ⟨tg, wv, ws, hws, hwr, h, hK, hC⟩ := HX.out
          have HWR := keepH hwr
          clear hwr
          obtain ⟨w3, hw3⟩ : ∃ w3, w3 = wr := ⟨_, rfl⟩
          subst hw3
          obtain ⟨lr, ⟨nc, av, os, hRm⟩, hbr⟩ := h.rm
          obtain ⟨pa, ca, eav⟩ := slice_of hRm.acc
          have elr : lr.length = t.length := by rw [← hbr]; simp
          have c2 : w3.cell? ⟨nm, 2, none⟩ = some (.slice pa t.length ca) := by
            have e := cell_of hRm.blk 2
            rw [eav, elr] at e
            exact e
          have r0 : w3.cell? ⟨r, 0, none⟩ = some (.pointer (some ⟨nm, 0, none⟩)) := cell_of h.blk 0
          obtain ⟨pw, cw, ewv⟩ := slice_of h.wr
          subst ewv
          have c6 : w3.cell? ⟨r, 6, none⟩ = some (.slice pw ws.length cw) := cell_of h.blk 6
          have f6 := free_of h.blk 6
          have H := keepH h
          have HKT := keepH hK
          have HCT := keepH hC
          clear HX h hK hC hRm hbr
          subst hws
          by_cases hk : ws.length < t.length
          · have z3 : (ws.length : Int) < (t.length : Int) := by omega
            have HW := keepH H.out.wr
            have g6 : ∀ w' : World, w'.heap[r]? = w3.heap[r]? → w'.cell? ⟨r, 6, none⟩ = some (.slice pw ws.length cw) ∧ w'.frozen? ⟨r, 6, none⟩ = false := fun w' e => ⟨(World.cell?_of_block (w := w3) e).trans c6, (World.frozen?_of_block (w := w3) e).trans f6⟩
            have HG6 := keepH g6
            clear g6
            go_wp2_with (at_builtin; refine wpList_append_own_at _ rfl _ _ 23 rfl 0 3 j0 (.int .i64 0) 1 8 Tryz.underlying23 hj0 hy0 hy1 hy2 rfl (by decide) _ _ _ rfl (HW.out.alloc _) ⟨_, 0, none⟩ 1 1 [.int .i64 (-1)] rfl rfl (cells_new _ _ rfl _ _) (by intro u hu; simp at hu; subst hu; rfl) (by unfold maxLen; omega) (by omega) (Nat.zero_le _) ?_; intro v' w4 s1 s2 s3 s4; obtain ⟨gp, gcp, ev'⟩ := slice_of s1; subst ev'; have h6 := HG6.out w4 ((s2.block r (by rw [World.size_alloc]; have := lt_of H.out.blk; omega) (fun e => by have := H.out.tw r e.symm; rw [H.out.tr] at this; omega)).trans (Below.heap_alloc _ _ r (lt_of H.out.blk))); have c6' := h6.1; have f6' := h6.2; clear h6; have HB3 := keepH (H.out.noted s1 s2 s4 (Nat.le_trans hB HCT.out.size) (by omega)); have HS2 := keepH s2; have HS4 := keepH s4; have HS1 := keepH s1; clear s1 s2 s3 s4)
            have HC4 : Hid (Chg (fun _ => False) X (w4.setCell ⟨r, 6, none⟩ (.slice gp (ws.length + 1) gcp))) := by
              have c4 : Chg (fun k => (Value.slice pw ws.length cw).ownBlock = some k) w3 w4 := ((Chg.refl (fun k => (Value.slice pw ws.length cw).ownBlock = some k) w3).alloc _).grown HS2.out (fun k e _ => e)
              have c5 : Chg (fun _ => False) X w4 := HCT.out.trans c4 (fun _ _ x => x) (fun k hk e => by
                have e6 := H.out.tw k e
                rcases HKT.out k (by rw [e6]; decide) with q | q
                · have := H.out.tR k q; omega
                · omega)
              refine c5.setCell (p := ⟨r, 6, none⟩) (fun q => ?_) _
              have q2 : r < X.heap.size := q
              rcases HKT.out r (by rw [H.out.tr]; decide) with z | z
              · have := H.out.tR r z; have := H.out.tr; omega
              · omega
            go_roundw
            case rel =>
              refine ⟨ws.length + 1, by omega, by first | rfl | go_num, _, _, ws ++ [-1], by simp, by rw [List.length_append, List.length_singleton, List.replicate_succ', ← HWR.out], HB3.out, fun k e => ?_, HC4.out⟩
              by_cases q : k < w3.heap.size
              · simp only [if_pos q] at e
                exact HKT.out k e
              · exact .inr (Nat.le_trans HCT.out.size (by omega))
            case measure => simp [intOf]; omega
          · have z3 : ¬ (ws.length : Int) < (t.length : Int) := by omega
            go_wp2_with fail
            go_ret2
            have ews : List.replicate t.length (-1) = ws := by rw [show t.length = ws.length by omega]; exact HWR.out.symm
            rw [ews]
            exact ⟨_, by simp, fun k => (R k ∨ X.heap.size ≤ k) ∧ k < w3.heap.size, ⟨_, _, _, _, _, _, _, _, H.out, fun k e => ⟨HKT.out k e, (H.out.lo k e).2⟩⟩, fun k e => by rw [← hsz]; exact e, HCT.out⟩
end Go.Proofs.YtnhiodmigmmfgaaGreat
/- The document's runner: too many threads, or calls. -/
namespace Go.Proofs.YtnhiodmigmmfgaaGreat
open Go.RowKit Go.Shelf
set_option linter.unusedVariables false

set_option maxRecDepth 100000 in
set_option maxHeartbeats 4000000 in
theorem d4_long {X : World} {B nm c8 : Nat} {p : Option Addr} {ll : List (List PlP)} {ap : Nat → Option Addr} {ac : Nat → Nat} {lp : Nat → Nat → Option Addr} {lc : Nat → Nat → Nat} (hP : ThsAt X B p ll ap ac lp lc) (hB : B ≤ X.heap.size) (hll : ll.length ≤ 1048576) (hls : ∀ l ∈ ll, l.length ≤ 1048576) (hb : tooL ll = true) :
    Calls Tryz.prog 32 #[.pointer (some ⟨nm, 0, none⟩), .slice p ll.length c8] X fun e Y => e = .returned (.tuple #[.pointer none, .int .i64 6]) ∧ Chg (fun _ => False) X Y := by
  have HP := keepH hP
  have HLS := keepH hls
  clear hP hls
  by_cases hT : 64 < ll.length
  · have z0 : (64 : Int) < (ll.length : Int) := by omega
    go_enter Tryz.func32, Tryz.ntmps32
    go_wp2_with fail
    go_ret2
    exact ⟨by simp, Chg.refl _ _⟩
  · have z0 : ¬ (64 : Int) < (ll.length : Int) := by omega
    have HL : Hid (∃ l ∈ ll, 4096 < l.length) := by
      unfold tooL at hb
      simp [hT] at hb
      exact hb
    clear hb
    go_enter Tryz.func32, Tryz.ntmps32
    go_wp2_with fail
    go_loopw [6] (fun s wx => ∃ i : Nat, i ≤ ll.length ∧ s = .int .i64 (i : Int) ∧ Hid ((∀ (j : Nat) (l : List PlP), j < i → ll[j]? = some l → l.length ≤ 4096) ∧ Chg (fun _ => False) X wx)) (fun s _ => ll.length - (intOf s).toNat)
    case atStart => exact ⟨0, Nat.zero_le _, rfl, fun j l hj => by omega, Chg.refl _ _⟩
    case round =>
      obtain ⟨i, hil, rfl, HC⟩ := hrel
      obtain ⟨w1, hw1⟩ : ∃ w1, w1 = wr := ⟨_, rfl⟩
      subst hw1
      by_cases hi : i < ll.length
      · have z1 : (i : Int) < (ll.length : Int) := by omega
        obtain ⟨l, hl⟩ : ∃ l, ll[i]? = some l := ⟨ll[i], List.getElem?_eq_getElem hi⟩
        obtain ⟨⟨bk, off, rfl, _, d0⟩, _⟩ := (HP.out.chg hB HC.out.2) i l hl
        have hl4 := HLS.out l (List.mem_of_getElem? hl)
        have HLL := keepH hl
        clear hl
        by_cases h4 : 4096 < l.length
        · have z2 : (4096 : Int) < (l.length : Int) := by omega
          go_wp2_with fail
          go_ret2
          exact ⟨by simp, HC.out.2⟩
        · have z2 : ¬ (4096 : Int) < (l.length : Int) := by omega
          go_wp2_with fail
          go_roundw
          case rel =>
            refine ⟨i + 1, by omega, by first | rfl | go_num, fun j l' hj hl' => ?_, HC.out.2⟩
            by_cases e : j = i
            · subst e; rw [HLL.out] at hl'; injection hl' with hl'; subst hl'; omega
            · exact HC.out.1 j l' (by omega) hl'
          case measure => simp [intOf]; omega
      · exfalso
        obtain ⟨l, hm, h4⟩ := HL.out
        obtain ⟨j, hj⟩ := List.mem_iff_getElem?.1 hm
        have hjl := (List.getElem?_eq_some_iff.1 hj).1
        have := HC.out.1 j l (by omega) hj
        omega
end Go.Proofs.YtnhiodmigmmfgaaGreat
/- Both: a program's runner, and the document's. -/
namespace Go.Proofs.YtnhiodmigmmfgaaGreat
open Go.RowKit Go.Shelf
set_option linter.unusedVariables false

theorem tooL_B {ll : List (List PlP)} {rv : Nat → Value} {pb : Nat → Nat → Nat} : tooLongB (tlOfP ll rv pb) = tooL ll := by
  have e1 : (tlOfP ll rv pb).length = ll.length := by simp [tlOfP]
  unfold tooLongB tooL
  rw [e1]
  congr 1
  rw [Bool.eq_iff_iff, List.any_eq_true, List.any_eq_true]
  constructor
  · rintro ⟨x, hx, h⟩
    obtain ⟨i, hi, rfl⟩ := List.mem_map.1 hx
    exact ⟨lOf ll i, List.mem_of_getElem? (lOf_get (List.mem_range.1 hi)), by simpa [ifL] using h⟩
  · rintro ⟨l, hl, h⟩
    obtain ⟨i, hi⟩ := List.mem_iff_getElem?.1 hl
    have hil := (List.getElem?_eq_some_iff.1 hi).1
    have e : lOf ll i = l := by have := lOf_get hil; rw [hi] at this; injection this with this; exact this.symm
    exact ⟨_, List.mem_map.2 ⟨i, List.mem_range.2 hil, rfl⟩, by simpa [ifL, e] using h⟩
/-- The lists that were handed in, some of them wiped. -/
structure Wp (w8 X : World) (ll : List (List PlP)) (gt ct : Nat) (rv : Nat → Value) (i : Nat) : Prop where
  tb : ∃ cur : Array Value, X.heap[gt]? = some (.cells cur 76 (0, 0)) ∧ ll.length ≤ cur.size ∧ ∀ j, i ≤ j → j < ll.length → cur[j]? = some (rv j)
  rb : ∀ j g, j < ll.length → (rv j).ownBlock = some g → ∃ cur : Array Value, X.heap[g]? = some (.cells cur 91 (0, 0)) ∧ clOf ll j ≤ cur.size
  sh : ∀ j, j < ll.length → ∃ p c, rv j = .slice p (clOf ll j) c ∧ (0 < clOf ll j → ∃ g, p = some ⟨g, 0, none⟩)
  chg : Chg (mineS ll.length (.slice (some ⟨gt, 0, none⟩) ll.length ct) rv) w8 X
theorem Wp.cell {w8 X : World} {ll : List (List PlP)} {gt ct : Nat} {rv : Nat → Value} {i g k : Nat} (h : Wp w8 X ll gt ct rv i) (j : Nat) (hj : j < ll.length) (hg : (rv j).ownBlock = some g) (u : Value) : Wp w8 (X.setCell ⟨g, k, none⟩ u) ll gt ct rv i := by
  obtain ⟨cu, b1, b2⟩ := h.rb j g hj hg
  obtain ⟨cur, a1, a2, a3⟩ := h.tb
  refine ⟨⟨cur, (Below.heap_setCell _ _ _ gt (fun e => typ_ne a1 b1 (by decide) e)).trans a1, a2, a3⟩, fun j' g' hj' hg' => ?_, h.sh, h.chg.setCell (p := ⟨g, k, none⟩) (fun _ => .inr ⟨j, hj, hg⟩) u⟩
  by_cases e : g' = g
  · subst e
    obtain ⟨cu', d1, d2⟩ := h.rb j' g' hj' hg'
    exact ⟨_, set_of d1 k u, by simpa using d2⟩
  · obtain ⟨cu', d1, d2⟩ := h.rb j' g' hj' hg'
    exact ⟨cu', (Below.heap_setCell _ _ _ g' (fun q => e q)).trans d1, d2⟩
theorem Wp.row {w8 X : World} {ll : List (List PlP)} {gt ct : Nat} {rv : Nat → Value} {i : Nat} (h : Wp w8 X ll gt ct rv i) (u : Value) : Wp w8 (X.setCell ⟨gt, i, none⟩ u) ll gt ct rv (i + 1) := by
  obtain ⟨cur, a1, a2, a3⟩ := h.tb
  refine ⟨⟨_, set_of a1 i u, by simpa using a2, fun j h1 h2 => ?_⟩, fun j g hj hg => ?_, h.sh, h.chg.setCell (p := ⟨gt, i, none⟩) (fun _ => .inl rfl) u⟩
  · rw [Array.getElem?_setIfInBounds_ne (by omega)]
    exact a3 j (by omega) h2
  · obtain ⟨cu, d1, d2⟩ := h.rb j g hj hg
    exact ⟨cu, (Below.heap_setCell _ _ _ g (fun q => typ_ne d1 a1 (by decide) q)).trans d1, d2⟩
/-- The memories, with one access made ahead. -/
structure Mid9 (V X : World) (F R : Nat → Prop) (b : Nat) : Prop where
  mem : IsMem X (b + 1) b
  bank : ∃ vs, Bank X F b 200 1 (stN 200 [] 50 3) [⟨9, 2, 50, 3, 0, vs, [], 0, false⟩]
  rm : RM X R (b + 3) 200 1 (stN 200 [] 50 3) [⟨9, 2, 50, 3, 0, .slice none 0 0, [], 0, false⟩]
  lo : (∀ k, F k → V.heap.size ≤ k) ∧ (∀ k, R k → V.heap.size ≤ k) ∧ V.heap.size ≤ b
  ap : (∀ k, R k → ¬ F k) ∧ ¬ F (b + 1) ∧ ¬ R (b + 1)
  chg : Chg (fun _ => False) V X
theorem mid9 {V w1 w2 w4 w5 : World} {b v : Nat} {F R : Nat → Prop} {vs : Value} {o : Obj} (eb : V.heap.size = b) (m1 : IsMem w1 (b + 1) b) (c1 : Chg (fun _ => False) V w1) (z1 : w1.heap.size = b + 2) (c2 : Chg (fun _ => False) w1 w2) (z2 : w2.heap.size = b + 4) (hv : v = b + 4) (b4 : Bank w4 F b 200 1 (stN 200 [] 50 3) [⟨9, 2, 50, 3, 0, vs, [], 0, false⟩]) (g4 : GoesV (w2.alloc o) w4 (fun k => k = b) F v)
    (r5 : RMem w5 R (b + 3) 200 1 (stN 200 [] 50 3) [⟨9, 2, 50, 3, 0, .slice none 0 0, [], 0, false⟩]) (g5 : Goes w4 w5 (fun k => k = b + 2 ∨ k = b + 3) R) : Mid9 V w5 F R b := by
  have z3 : (w2.alloc o).heap.size = b + 5 := by simp [z2]
  have s4 := g4.chg.size
  have c3 : Chg (fun _ => False) V (w2.alloc o) := (c1.trans c2 (H := fun _ => False) (fun _ _ x => x) (fun _ _ x => x)).alloc o
  have c4 : Chg (fun _ => False) V w4 := c3.trans g4.chg (fun _ _ x => x) (fun k hk e => by rcases e with e | e <;> omega)
  have c5 : Chg (fun _ => False) V w5 := c4.trans g5.chg (fun _ _ x => x) (fun k hk e => by rcases e with e | e <;> omega)
  have lF : ∀ k, F k → k = b ∨ b + 5 ≤ k := fun k e => (g4.new k e).imp id (fun q => by omega)
  have lR : ∀ k, R k → (k = b + 2 ∨ k = b + 3) ∨ w4.heap.size ≤ k := fun k e => g5.new k e
  have hmem2 : IsMem (w2.alloc o) (b + 1) b := (Below.heap_alloc _ _ _ (by omega)).trans ((c2.block _ (by omega) (fun x => x)).trans m1)
  have hmem4 : IsMem w4 (b + 1) b := (g4.chg.block _ (by omega) (fun e => by rcases e with e | e <;> omega)).trans hmem2
  refine ⟨(g5.chg.block _ (by omega) (fun e => by rcases e with e | e <;> omega)).trans hmem4, ⟨vs, b4.chg g5.chg (fun k e q => ?_)⟩, ⟨_, r5, rfl⟩, ⟨fun k e => ?_, fun k e => ?_, by omega⟩, ⟨fun k e q => ?_, fun q => ?_, fun q => ?_⟩, c5⟩
  · rcases lF k e with z | z <;> rcases q with q | q <;> omega
  · rcases lF k e with z | z <;> omega
  · rcases lR k e with (z | z) | z <;> omega
  · have hlt := b4.ltF k q
    rcases lR k e with (z | z) | z
    · rcases lF k q with y | y <;> omega
    · rcases lF k q with y | y <;> omega
    · omega
  · rcases lF _ q with z | z <;> omega
  · rcases lR _ q with (z | z) | z <;> omega
end Go.Proofs.YtnhiodmigmmfgaaGreat
/- Both, walked: threads that are not too long. -/
namespace Go.Proofs.YtnhiodmigmmfgaaGreat
open Go.RowKit Go.Shelf
set_option linter.unusedVariables false

def c0Of (ll : List (List PlP)) (lp : Nat → Nat → Option Addr) (lc : Nat → Nat → Nat) : Cfg PS := ⟨1, stN 200 [] 50 3, [⟨9, 2, 50, 3, 0, .slice none 0 0, [], 0, false⟩], fun _ => 0, s0Of ll lp lc, 0, fun _ => false, [], []⟩
/-- The procs that the law keeps, row by row. -/
def MineAt (Y : World) (ll : List (List PlP)) (sv : Value) (qv : Nat → Value) (pb : Nat → Nat → Nat) : Prop := Y.ownsRow 0 120 1 sv ll.length ((List.range ll.length).map qv) ∧ ∀ i, i < ll.length → Y.ownsRow 0 123 1 (qv i) (ptL (lOf ll i) (pb i) (lOf ll i).length).length (ptL (lOf ll i) (pb i) (lOf ll i).length)
set_option maxRecDepth 100000 in
set_option maxHeartbeats 16000000 in
theorem both_all {W V : World} {p : Option Addr} {c8 : Nat} {ll : List (List PlP)} {ap : Nat → Option Addr} {ac : Nat → Nat} {lp : Nat → Nat → Option Addr} {lc : Nat → Nat → Nat} (hW : Chg (fun _ => False) W V) (hP : ThsAt W W.heap.size p ll ap ac lp lc) (hll : ll.length ≤ 1048576) (hls : ∀ l ∈ ll, l.length ≤ 1048576) (hL : ∀ l ∈ ll, ∀ q ∈ l, q.L.length ≤ 1048576) (hb : tooL ll = false) :
    Calls Tryz.prog 7 #[.slice p ll.length c8] V fun e Y => ∃ wb q, e = .returned (.tuple #[.pointer (some ⟨wb, 0, none⟩), .pointer (some ⟨q, 0, none⟩), .bool true]) ∧ ∃ m r b nm sv qv vb pb K, Y.heap[wb]? = some (.cells #[.pointer (some ⟨m, 0, none⟩), .pointer (some ⟨r, 0, none⟩), sv] 33 (0, 0)) ∧ V.heap.size ≤ wb ∧ GR (plK W.heap.size W) 200 m b ll.length (clOf ll) vb (pvOf ll pb) (c0Of ll lp lc) V Y Y (fun k => mineS ll.length sv qv k ∨ K k ∨ k = wb) r ∧ D4x Y W.heap.size q nm ll.length p c8 ⟨0, fun _ => 0, fun _ => 0, [], [-1], fun _ => [], ⟨1, stN 200 [] 50 3⟩, [⟨9, 2, 50, 3, 0, .slice none 0 0, [], 0, false⟩]⟩ K ∧ (∀ k, K k → V.heap.size ≤ k ∧ k < wb) ∧ MineAt Y ll sv qv pb ∧ ∀ k, mineS ll.length sv qv k → V.heap.size ≤ k ∧ k < wb ∧ ¬ K k := by
  have HW := keepH hW
  have HP := keepH hP
  have HLS := keepH hls
  have HL := keepH hL
  have HB := keepH hb
  clear hW hP hls hL hb
  go_enter Tryz.func7, Tryz.ntmps7
  go_wp2_with fail
  refine (m_new 200 V (by omega)).mono ?_
  rintro e w1 ⟨rfl, m1, b1, c1, z1⟩
  obtain ⟨b, eb⟩ : ∃ b, V.heap.size = b := ⟨_, rfl⟩
  rw [eb] at m1 b1 z1 ⊢
  have HM1 := keepH m1
  have HB1 := keepH b1
  have HC1 := keepH c1
  have HEB := keepH eb
  clear m1 b1 c1 eb
  go_wp2_with fail
  refine (r_new 200 w1 (by omega)).mono ?_
  rintro e w2 ⟨rfl, m2, c2, z2⟩
  rw [z1] at m2 z2 ⊢
  have HM2 : Hid (RMem w2 (fun k => k = b + 2 ∨ k = b + 3) (b + 3) 200 1 [] []) := m2
  have HC2 := keepH c2
  have HZ1 := keepH z1
  have HZ2 : Hid (w2.heap.size = b + 4) := z2
  clear m2 c2 z1 z2
  simp only [show b + 2 + 1 = b + 3 from rfl]
  have HMM : Hid (IsMem w2 (b + 1) b) := (HC2.out.block _ (by have := HZ1.out; omega) (fun x => x)).trans HM1.out
  have HBB : Hid (Bank w2 (fun k => k = b) b 200 1 [] []) := HB1.out.chg HC2.out (fun _ _ x => x)
  go_wp2_with fail
  refine (m_view (b + 1) b 9 _ HMM.out).mono ?_
  rintro e w3 ⟨rfl, hw3⟩
  rw [HZ2.out]
  have HV3 : Hid (IsView w3 (b + 4) b 9 0) := by rw [hw3, ← HZ2.out]; exact heap_alloc_new _ _
  have HB3 : Hid (Bank w3 (fun k => k = b) b 200 1 [] []) := by rw [hw3]; exact HBB.out.chg ((Chg.refl (fun _ => False) w2).alloc _) (fun _ _ x => x)
  have HW3 := keepH hw3
  clear hw3
  go_wp2_with fail
  refine (v_store (b + 4) b 200 1 0 9 50 3 (fun k => k = b) [] [] w3 HV3.out HB3.out (by omega) (by omega) (by simp) (by omega) (by omega)).mono ?_
  rintro e w4 ⟨rfl, F, vs, b4, v4, g4⟩
  have HB4 := keepH b4
  have HG4 := keepH g4
  have HR4 : Hid (RMem w4 (fun k => k = b + 2 ∨ k = b + 3) (b + 3) 200 1 [] []) := (HM2.out.chg (G := fun _ => False) (by rw [HW3.out]; exact (Chg.refl _ _).alloc _) (fun _ _ x => x)).chg g4.chg (fun k e q => by rcases e with e | e <;> rcases q with q | q <;> omega)
  clear b4 v4 g4
  go_wp2_with fail
  refine (r_store (b + 3) 200 1 50 3 9 _ [] [] w4 HR4.out (by simp) (by omega) (by omega)).mono ?_
  rintro e w5 ⟨rfl, R, r5, g5⟩
  have HMid : Hid (Mid9 V w5 F R b) := mid9 (o := .cells #[.iface 134 (.pointer (some ⟨b, 0, none⟩)), .int .i64 9, .int .i64 0] 141) HEB.out HM1.out HC1.out HZ1.out HC2.out HZ2.out rfl HB4.out (by rw [← HW3.out]; exact HG4.out) r5 g5
  have HT5 : Hid (ThsAt w5 W.heap.size p ll ap ac lp lc) := HP.out.chg (Nat.le_refl _) (HW.out.trans HMid.out.chg (fun _ _ x => x) (fun _ _ x => x))
  have hsW : W.heap.size ≤ V.heap.size := HW.out.size
  clear r5 g5 HM1 HB1 HC1 HM2 HC2 HZ1 HZ2 HMM HBB HV3 HB3 HW3 HB4 HG4 HR4
  go_wp2_with fail
  refine (pr_many HT5.out (Nat.le_trans hsW HMid.out.chg.size) hll HLS.out).mono ?_
  rintro e w6 ⟨tv0, sv, rfl, rv, qv, pb, hM⟩
  have HPM := keepH hM
  obtain ⟨pt, ct, et⟩ := slice_row hM.o1
  obtain ⟨ps, cs, es⟩ := slice_row hM.o2
  subst et es
  have HM6 : Hid (IsMem w6 (b + 1) b) := HMid.out.mem.chg hM.chg (fun x => x)
  have HTB : Hid (tooLongB (tlOfP ll rv pb) = false) := tooL_B.trans HB.out
  clear hM
  go_wp2_with fail
  refine (s_new (b + 1) b _ (tlOfP ll rv pb) w6 HM6.out HPM.out.lists HTB.out).mono ?_
  rintro e w7 ⟨r, G, tv, ths, vbs, rfl, hMd, hths⟩
  have etl : (tlOfP ll rv pb).length = ll.length := by simp [tlOfP]
  rw [etl] at hMd hths
  have HGR : Hid (GR (plK W.heap.size W) 200 (b + 1) b ll.length (clOf ll) (fun j => vbs.getD j 0) (pvOf ll pb) (c0Of ll lp lc) V w7 w7 (fun k => mineS ll.length (.slice ps ll.length cs) qv k ∨ mineS ll.length (.slice pt ll.length ct) rv k ∨ R k) r) := by
    obtain ⟨vs', hbk⟩ := HMid.out.bank
    obtain ⟨a1, a2, a3⟩ := HMid.out.lo
    obtain ⟨d1, d2, d3⟩ := HMid.out.ap
    exact gr_start HW.out HMid.out.chg HMid.out.mem hbk (by simp) a1 (by omega) d2 HPM.out hMd hths HP.out HL.out (fun k e => ⟨HMid.out.rm.lt k e, by have := a2 k e; omega, d1 k e, fun q => d3 (q ▸ e)⟩)
  have HC67 : Hid (Chg (fun _ => False) w6 w7) := hMd.chg
  clear hMd hths etl HTB HM6
  go_wp2_with fail
  have HT7 : Hid (ThsAt w7 W.heap.size p ll ap ac lp lc) := HP.out.chg (Nat.le_refl _) (((HW.out.trans HMid.out.chg (H := fun _ => False) (fun _ _ x => x) (fun _ _ x => x)).trans HPM.out.chg (H := fun _ => False) (fun _ _ x => x) (fun _ _ x => x)).trans HC67.out (fun _ _ x => x) (fun _ _ x => x))
  have HR7 : Hid (RM w7 R (b + 3) 200 1 (stN 200 [] 50 3) [⟨9, 2, 50, 3, 0, .slice none 0 0, [], 0, false⟩]) := (HMid.out.rm.chg HPM.out.chg (fun _ _ x => x)).chg HC67.out (fun _ _ x => x)
  have HS7 : Hid (W.heap.size ≤ w7.heap.size) := Nat.le_trans hsW (Nat.le_trans HMid.out.chg.size (Nat.le_trans HPM.out.chg.size HC67.out.size))
  refine (d4_new (m := ⟨1, stN 200 [] 50 3⟩) HT7.out HS7.out hll HLS.out HR7.out (fun k e => by have := HMid.out.lo.2.1 k e; omega) (by decide) (by simp) HB.out).mono ?_
  rintro e w8 ⟨q, rfl, K, hD4, hK, c78⟩
  have HD8 := keepH hD4
  have HK8 := keepH hK
  have HC78 := keepH c78
  have HG8 : Hid (GR (plK W.heap.size W) 200 (b + 1) b ll.length (clOf ll) (fun j => vbs.getD j 0) (pvOf ll pb) (c0Of ll lp lc) V w8 w8 (fun k => mineS ll.length (.slice ps ll.length cs) qv k ∨ mineS ll.length (.slice pt ll.length ct) rv k ∨ K k) r) := HGR.out.rebase c78 (fun k e => by
    rcases e with e | e | e
    · exact .inl (.inl e)
    · exact .inl (.inr (.inl e))
    · rcases hK k e with ⟨z | z, y⟩
      · exact .inl (.inr (.inr z))
      · exact .inr ⟨z, y⟩)
  have HKV : Hid (∀ k, K k → V.heap.size ≤ k) := fun k e => by
    rcases (hK k e).1 with z | z
    · exact HMid.out.lo.2.1 k z
    · have := HMid.out.chg.size; have := HPM.out.chg.size; have := HC67.out.size; omega
  have HMS : Hid (∀ k, mineS ll.length (.slice pt ll.length ct) rv k → V.heap.size ≤ k ∧ ∃ tp cur, (tp = 76 ∨ tp = 91) ∧ w6.heap[k]? = some (.cells cur tp (0, 0))) := fun k e => by
    have := HMid.out.chg.size
    rcases e with e | ⟨i, hi, e⟩
    · obtain ⟨z1, cur, z2⟩ := row_typ HPM.out.o1 e
      exact ⟨by omega, _, cur, .inl rfl, z2⟩
    · obtain ⟨z1, cur, z2⟩ := row_typ (HPM.out.r1 i _ hi (lOf_get hi)) e
      exact ⟨by omega, _, cur, .inr rfl, z2⟩
  have HNK : Hid (∀ k, K k → ¬ mineS ll.length (.slice pt ll.length ct) rv k) := fun k e q => by
    have hlt : w5.heap.size ≤ k ∧ k < w6.heap.size := by
      rcases q with q | ⟨i, hi, q⟩
      · obtain ⟨z1, cur, z2⟩ := row_typ HPM.out.o1 q
        exact ⟨z1, lt_of z2⟩
      · obtain ⟨z1, cur, z2⟩ := row_typ (HPM.out.r1 i _ hi (lOf_get hi)) q
        exact ⟨z1, lt_of z2⟩
    rcases (hK k e).1 with z | z
    · have := HMid.out.rm.lt k z; omega
    · have := HC67.out.size; omega
  have HNQ : Hid (∀ k, mineS ll.length (.slice ps ll.length cs) qv k → V.heap.size ≤ k ∧ k < w8.heap.size ∧ ¬ K k) := fun k q => by
    have hlt : w5.heap.size ≤ k ∧ k < w6.heap.size := by
      rcases q with q | ⟨i, hi, q⟩
      · obtain ⟨z1, cur, z2⟩ := row_typ HPM.out.o2 q
        exact ⟨z1, lt_of z2⟩
      · obtain ⟨z1, cur, z2⟩ := row_typ (HPM.out.r2 i _ hi (lOf_get hi)) q
        exact ⟨z1, lt_of z2⟩
    have a1 := HMid.out.chg.size; have a3 := HC67.out.size; have a4 := HC78.out.size
    refine ⟨by omega, by omega, fun e => ?_⟩
    rcases (hK k e).1 with z | z
    · have := HMid.out.rm.lt k z; omega
    · omega
  have HNM : Hid (∀ k, mineS ll.length (.slice ps ll.length cs) qv k → ¬ mineS ll.length (.slice pt ll.length ct) rv k) := fun k e q => by
    obtain ⟨_, tp, cur, htp, z2⟩ := HMS.out k q
    rcases e with e | ⟨i, hi, e⟩
    · obtain ⟨_, cur', z2'⟩ := row_typ HPM.out.o2 e
      rcases htp with rfl | rfl
      · exact typ_ne z2' z2 (by decide) rfl
      · exact typ_ne z2' z2 (by decide) rfl
    · obtain ⟨_, cur', z2'⟩ := row_typ (HPM.out.r2 i _ hi (lOf_get hi)) e
      rcases htp with rfl | rfl
      · exact typ_ne z2' z2 (by decide) rfl
      · exact typ_ne z2' z2 (by decide) rfl
  have HW0 : Hid (∀ gt, pt = some ⟨gt, 0, none⟩ → Wp w8 w8 ll gt ct rv 0) := fun gt eg => by
    have k68 : ∀ {k : Nat} {o : Obj}, w6.heap[k]? = some o → w8.heap[k]? = some o := fun hk => by
      have a1 := (HC67.out.block _ (lt_of hk) (fun x => x)).trans hk
      exact (c78.block _ (lt_of a1) (fun x => x)).trans a1
    have o1 := HPM.out.o1
    rw [eg] at o1
    refine ⟨?_, fun j g hj hg => ?_, fun j hj => ?_, Chg.refl _ _⟩
    · rcases o1.2 with ⟨e, _⟩ | ⟨g', cap, cur, e, _, hg', _, _, _, ht⟩
      · cases e
      · injection e with e1 _ _
        injection e1 with e1
        injection e1 with e1
        subst e1
        have e2 := congrArg List.length ht
        simp at e2
        refine ⟨cur, k68 hg', by omega, fun j _ hj => ?_⟩
        have e3 : ((List.range ll.length).map rv)[j]? = some (rv j) := by simp [hj]
        rw [← ht, List.getElem?_take_of_lt (by omega)] at e3
        simpa using e3
    · have hr := HPM.out.r1 j _ hj (lOf_get hj)
      rcases hr.2 with ⟨e, _⟩ | ⟨g', cap, cur, e, _, hg', _, _, _, ht⟩
      · rw [e] at hg; simp [Value.ownBlock] at hg
      · rw [e] at hg
        obtain rfl : g' = g := by simpa [Value.ownBlock] using hg
        refine ⟨cur, k68 hg', ?_⟩
        have e2 := congrArg List.length ht
        simp [ifL] at e2
        unfold clOf
        omega
    · have hr := HPM.out.r1 j _ hj (lOf_get hj)
      rcases hr.2 with ⟨e, h0⟩ | ⟨g', cap, cur, e, _⟩
      · exact ⟨none, 0, by rw [e]; unfold clOf; rw [h0], fun x => by unfold clOf at x; omega⟩
      · exact ⟨_, cap, e, fun _ => ⟨g', rfl⟩⟩
  have HTP : Hid (0 < ll.length → ∃ gt, pt = some ⟨gt, 0, none⟩) := fun h0 => by
    obtain ⟨gt, c', e⟩ := slice_pos (row_base HPM.out.o1) h0
    injection e with e _ _
    exact ⟨gt, e⟩
  have HCl : Hid (∀ j, clOf ll j ≤ 1048576) := fun j => by
    unfold clOf lOf
    rw [List.getD_eq_getElem?_getD]
    cases hz : ll[j]? with
    | none => simp
    | some l => exact HLS.out l (List.mem_of_getElem? hz)
  clear hD4 hK c78 HGR HT7 HR7 HS7
  go_wp2_with fail
  go_loopw [14] (fun s wx => ∃ i : Nat, i ≤ ll.length ∧ s = .int .i64 (i : Int) ∧ Hid ((∀ gt, pt = some ⟨gt, 0, none⟩ → Wp w8 wx ll gt ct rv i) ∧ Chg (mineS ll.length (.slice pt ll.length ct) rv) w8 wx)) (fun s _ => ll.length - (intOf s).toNat)
  case atStart => exact ⟨0, Nat.zero_le _, rfl, HW0.out, Chg.refl _ _⟩
  case round =>
    obtain ⟨i, hil, rfl, HX⟩ := hrel
    obtain ⟨w9, hw9⟩ : ∃ w9, w9 = wr := ⟨_, rfl⟩
    subst hw9
    by_cases hi : i < ll.length
    · have z1 : (i : Int) < (ll.length : Int) := by omega
      obtain ⟨gt, egt⟩ := HTP.out (by omega)
      subst egt
      have HWp := keepH (HX.out.1 gt rfl)
      obtain ⟨pi, ci, eri, hgi⟩ := HWp.out.sh i hi
      obtain ⟨n, hn⟩ : ∃ n, n = clOf ll i := ⟨_, rfl⟩
      have hn20 : n ≤ 1048576 := by rw [hn]; exact HCl.out i
      rw [← hn] at eri hgi
      have HN := keepH hn
      have HRI := keepH eri
      have HGI := keepH hgi
      clear HX hn eri hgi
      go_wp2_with fail
      go_loopw [15] (fun s wx => ∃ k : Nat, k ≤ n ∧ s = .int .i64 (k : Int) ∧ Hid (Wp w8 wx ll gt ct rv i)) (fun s _ => n - (intOf s).toNat)
      case atStart => exact ⟨0, Nat.zero_le _, rfl, HWp.out⟩
      case round =>
        obtain ⟨k, hkn, rfl, HY⟩ := hrel
        obtain ⟨w10, hw10⟩ : ∃ w10, w10 = wr := ⟨_, rfl⟩
        subst hw10
        have y0 : w10.cell? ⟨gt, i, none⟩ = some (.slice pi n ci) := by
          obtain ⟨cur, a1, a2, a3⟩ := HY.out.tb
          rw [cell_of a1 i, a3 i (Nat.le_refl _) hi, HRI.out]
        have yf : w10.frozen? ⟨gt, i, none⟩ = false := by
          obtain ⟨cur, a1, _⟩ := HY.out.tb
          exact free_of a1 i
        by_cases hk : k < n
        · have z2 : (k : Int) < (n : Int) := by omega
          obtain ⟨g, rfl⟩ := HGI.out (by omega)
          have hro : (rv i).ownBlock = some g := by rw [HRI.out]; rfl
          obtain ⟨cu, b1, b2⟩ := HY.out.rb i g hi hro
          obtain ⟨u, hu⟩ : ∃ u, w10.cell? ⟨g, k, none⟩ = some u := ⟨cu[k]'(by have := HN.out; omega), by rw [cell_of b1 k]; simp [show k < cu.size by have := HN.out; omega]⟩
          have hfr := free_of b1 k
          have HRO := keepH hro
          clear b1 b2 hro
          go_wp2_with fail
          go_roundw
          case rel => exact ⟨k + 1, by omega, by first | rfl | go_num, HY.out.cell i hi HRO.out _⟩
          case measure => simp [intOf]; omega
        · have z2 : ¬ (k : Int) < (n : Int) := by omega
          go_wp2_with fail
          go_roundw
          case rel => exact ⟨i + 1, by omega, by first | rfl | go_num, fun gt' e => by injection e with e; injection e with e; subst e; exact HY.out.row _, (HY.out.row _).chg⟩
          case measure => simp [intOf]; omega
    · have z1 : ¬ (i : Int) < (ll.length : Int) := by omega
      have HG9 : Hid (GR (plK W.heap.size W) 200 (b + 1) b ll.length (clOf ll) (fun j => vbs.getD j 0) (pvOf ll pb) (c0Of ll lp lc) V w8 w9 (fun k => mineS ll.length (.slice ps ll.length cs) qv k ∨ K k) r) := HG8.out.drop HX.out.2 (fun k e => ⟨.inr (.inl e), (HMS.out k e).1⟩) (fun k e => by
        rcases e with e | e
        · exact ⟨.inl e, HNM.out k e⟩
        · exact ⟨.inr (.inr e), HNK.out k e⟩)
      have HD9 : Hid (D4x w9 W.heap.size q (b + 3) ll.length p c8 ⟨0, fun _ => 0, fun _ => 0, [], [-1], fun _ => [], ⟨1, stN 200 [] 50 3⟩, [⟨9, 2, 50, 3, 0, .slice none 0 0, [], 0, false⟩]⟩ K) := HD8.out.keep HX.out.2.size (fun k e => HX.out.2.block k (HK8.out k e).2 (HNK.out k e))
      have HS9 : Hid (V.heap.size ≤ w9.heap.size) := by
        have a1 := HMid.out.chg.size; have a2 := HPM.out.chg.size; have a3 := HC67.out.size; have a4 := HC78.out.size; have a5 := HX.out.2.size
        show _ ≤ _
        omega
      have HSZ89 : Hid (w8.heap.size ≤ w9.heap.size) := HX.out.2.size
      have HMN : Hid (∀ o, MineAt (w9.alloc o) ll (.slice ps ll.length cs) qv pb) := fun o => by
        obtain ⟨G', K', vw', tv', ev', av', ths', g'⟩ := HG9.out
        have kp : ∀ k, k < w6.heap.size → mineS ll.length (.slice ps ll.length cs) qv k → (w9.alloc o).heap[k]? = w6.heap[k]? := fun k lk e => by
          have z := g'.keep k (.inl e)
          exact (Below.heap_alloc _ _ k z.1).trans (z.2.1.trans ((HC78.out.block k (by have := HC67.out.size; omega) (fun x => x)).trans (HC67.out.block k lk (fun x => x))))
        exact ⟨row_kept (row_base HPM.out.o2) (fun k e => kp k (HPM.out.o2.lt k e).2 (.inl e)), fun i hi => row_kept (row_base (HPM.out.r2 i _ hi (lOf_get hi))) (fun k e => kp k ((HPM.out.r2 i _ hi (lOf_get hi)).lt k e).2 (.inr ⟨i, hi, e⟩))⟩
      clear HX
      go_wp2_with fail
      go_ret3
      refine ⟨w9.heap.size, q, by simp, b + 1, r, b, b + 3, .slice ps ll.length cs, heap_alloc_new _ _, HS9.out, qv, fun j => vbs.getD j 0, pb, K, HG9.out.rebase ((Chg.refl (fun _ => False) w9).alloc _) (fun k e => ?_), HD9.out.keep (by simp) (fun k e => Below.heap_alloc _ _ k ?_), fun k e => ⟨HKV.out k e, Nat.lt_of_lt_of_le (HK8.out k e).2 HSZ89.out⟩, HMN.out _, fun k e => ⟨(HNQ.out k e).1, Nat.lt_of_lt_of_le (HNQ.out k e).2.1 HSZ89.out, (HNQ.out k e).2.2⟩⟩
      · rcases e with e | e | e
        · exact .inl (.inl e)
        · exact .inl (.inr e)
        · exact .inr (by rw [e]; simp)
      · obtain ⟨tg, gc, ga, gg, ev, wv, gv, R', h', hK'⟩ := HD9.out
        have a1 := (HK8.out k e).2
        have a2 : Hid (w8.heap.size ≤ w9.heap.size) := HSZ89
        exact Nat.lt_of_lt_of_le a1 a2.out
end Go.Proofs.YtnhiodmigmmfgaaGreat
/- Both, walked: threads that are too long. -/
namespace Go.Proofs.YtnhiodmigmmfgaaGreat
open Go.RowKit Go.Shelf
set_option linter.unusedVariables false

set_option maxRecDepth 100000 in
set_option maxHeartbeats 16000000 in
theorem both_long {W V : World} {p : Option Addr} {c8 : Nat} {ll : List (List PlP)} {ap : Nat → Option Addr} {ac : Nat → Nat} {lp : Nat → Nat → Option Addr} {lc : Nat → Nat → Nat} (hW : Chg (fun _ => False) W V) (hP : ThsAt W W.heap.size p ll ap ac lp lc) (hll : ll.length ≤ 1048576) (hls : ∀ l ∈ ll, l.length ≤ 1048576) (hL : ∀ l ∈ ll, ∀ q ∈ l, q.L.length ≤ 1048576) (hb : tooL ll = true) :
    Calls Tryz.prog 7 #[.slice p ll.length c8] V fun e Y => ∃ wb, e = .returned (.tuple #[.pointer (some ⟨wb, 0, none⟩), .pointer none, .bool true]) ∧ Chg (fun _ => False) V Y := by
  have HW := keepH hW
  have HP := keepH hP
  have HLS := keepH hls
  have HL := keepH hL
  have HB := keepH hb
  clear hW hP hls hL hb
  go_enter Tryz.func7, Tryz.ntmps7
  go_wp2_with fail
  refine (m_new 200 V (by omega)).mono ?_
  rintro e w1 ⟨rfl, m1, b1, c1, z1⟩
  obtain ⟨b, eb⟩ : ∃ b, V.heap.size = b := ⟨_, rfl⟩
  rw [eb] at m1 b1 z1 ⊢
  have HM1 := keepH m1
  have HB1 := keepH b1
  have HC1 := keepH c1
  have HEB := keepH eb
  clear m1 b1 c1 eb
  go_wp2_with fail
  refine (r_new 200 w1 (by omega)).mono ?_
  rintro e w2 ⟨rfl, m2, c2, z2⟩
  rw [z1] at m2 z2 ⊢
  have HM2 : Hid (RMem w2 (fun k => k = b + 2 ∨ k = b + 3) (b + 3) 200 1 [] []) := m2
  have HC2 := keepH c2
  have HZ1 := keepH z1
  have HZ2 : Hid (w2.heap.size = b + 4) := z2
  clear m2 c2 z1 z2
  simp only [show b + 2 + 1 = b + 3 from rfl]
  have HMM : Hid (IsMem w2 (b + 1) b) := (HC2.out.block _ (by have := HZ1.out; omega) (fun x => x)).trans HM1.out
  have HBB : Hid (Bank w2 (fun k => k = b) b 200 1 [] []) := HB1.out.chg HC2.out (fun _ _ x => x)
  go_wp2_with fail
  refine (m_view (b + 1) b 9 _ HMM.out).mono ?_
  rintro e w3 ⟨rfl, hw3⟩
  rw [HZ2.out]
  have HV3 : Hid (IsView w3 (b + 4) b 9 0) := by rw [hw3, ← HZ2.out]; exact heap_alloc_new _ _
  have HB3 : Hid (Bank w3 (fun k => k = b) b 200 1 [] []) := by rw [hw3]; exact HBB.out.chg ((Chg.refl (fun _ => False) w2).alloc _) (fun _ _ x => x)
  have HW3 := keepH hw3
  clear hw3
  go_wp2_with fail
  refine (v_store (b + 4) b 200 1 0 9 50 3 (fun k => k = b) [] [] w3 HV3.out HB3.out (by omega) (by omega) (by simp) (by omega) (by omega)).mono ?_
  rintro e w4 ⟨rfl, F, vs, b4, v4, g4⟩
  have HB4 := keepH b4
  have HG4 := keepH g4
  have HR4 : Hid (RMem w4 (fun k => k = b + 2 ∨ k = b + 3) (b + 3) 200 1 [] []) := (HM2.out.chg (G := fun _ => False) (by rw [HW3.out]; exact (Chg.refl _ _).alloc _) (fun _ _ x => x)).chg g4.chg (fun k e q => by rcases e with e | e <;> rcases q with q | q <;> omega)
  clear b4 v4 g4
  go_wp2_with fail
  refine (r_store (b + 3) 200 1 50 3 9 _ [] [] w4 HR4.out (by simp) (by omega) (by omega)).mono ?_
  rintro e w5 ⟨rfl, R, r5, g5⟩
  have HMid : Hid (Mid9 V w5 F R b) := mid9 (o := .cells #[.iface 134 (.pointer (some ⟨b, 0, none⟩)), .int .i64 9, .int .i64 0] 141) HEB.out HM1.out HC1.out HZ1.out HC2.out HZ2.out rfl HB4.out (by rw [← HW3.out]; exact HG4.out) r5 g5
  have HT5 : Hid (ThsAt w5 W.heap.size p ll ap ac lp lc) := HP.out.chg (Nat.le_refl _) (HW.out.trans HMid.out.chg (fun _ _ x => x) (fun _ _ x => x))
  have hsW : W.heap.size ≤ V.heap.size := HW.out.size
  clear r5 g5 HM1 HB1 HC1 HM2 HC2 HZ1 HZ2 HMM HBB HV3 HB3 HW3 HB4 HG4 HR4
  go_wp2_with fail
  refine (pr_many HT5.out (Nat.le_trans hsW HMid.out.chg.size) hll HLS.out).mono ?_
  rintro e w6 ⟨tv0, sv, rfl, rv, qv, pb, hM⟩
  have HPM := keepH hM
  obtain ⟨pt, ct, et⟩ := slice_row hM.o1
  obtain ⟨ps, cs, es⟩ := slice_row hM.o2
  subst et es
  have HM6 : Hid (IsMem w6 (b + 1) b) := HMid.out.mem.chg hM.chg (fun x => x)
  have HTB : Hid (tooLongB (tlOfP ll rv pb) = true) := tooL_B.trans HB.out
  clear hM
  go_wp2_with fail
  refine (s_new_long (b + 1) _ (tlOfP ll rv pb) w6 HPM.out.lists (by simp [tlOfP]; omega) (fun x hx => by
    obtain ⟨i, hi, rfl⟩ := List.mem_map.1 hx
    have := HLS.out _ (List.mem_of_getElem? (lOf_get (List.mem_range.1 hi)))
    simp [ifL]
    omega) HTB.out).mono ?_
  rintro e w7 ⟨rfl, hw7⟩
  subst hw7
  have HT7 : Hid (ThsAt w7 W.heap.size p ll ap ac lp lc) := HP.out.chg (Nat.le_refl _) ((HW.out.trans HMid.out.chg (H := fun _ => False) (fun _ _ x => x) (fun _ _ x => x)).trans HPM.out.chg (fun _ _ x => x) (fun _ _ x => x))
  have HS7 : Hid (W.heap.size ≤ w7.heap.size) := Nat.le_trans hsW (Nat.le_trans HMid.out.chg.size HPM.out.chg.size)
  clear HTB HM6
  go_wp2_with fail
  refine (d4_long HT7.out HS7.out hll HLS.out HB.out).mono ?_
  rintro e w8 ⟨rfl, c78⟩
  have HC78 := keepH c78
  have HMS : Hid (∀ k, mineS ll.length (.slice pt ll.length ct) rv k → V.heap.size ≤ k ∧ ∃ tp cur, (tp = 76 ∨ tp = 91) ∧ w7.heap[k]? = some (.cells cur tp (0, 0))) := fun k e => by
    have := HMid.out.chg.size
    rcases e with e | ⟨i, hi, e⟩
    · obtain ⟨z1, cur, z2⟩ := row_typ HPM.out.o1 e
      exact ⟨by omega, _, cur, .inl rfl, z2⟩
    · obtain ⟨z1, cur, z2⟩ := row_typ (HPM.out.r1 i _ hi (lOf_get hi)) e
      exact ⟨by omega, _, cur, .inr rfl, z2⟩
  have HW0 : Hid (∀ gt, pt = some ⟨gt, 0, none⟩ → Wp w8 w8 ll gt ct rv 0) := fun gt eg => by
    have k68 : ∀ {k : Nat} {o : Obj}, w7.heap[k]? = some o → w8.heap[k]? = some o := fun hk => (c78.block _ (lt_of hk) (fun x => x)).trans hk
    have o1 := HPM.out.o1
    rw [eg] at o1
    refine ⟨?_, fun j g hj hg => ?_, fun j hj => ?_, Chg.refl _ _⟩
    · rcases o1.2 with ⟨e, _⟩ | ⟨g', cap, cur, e, _, hg', _, _, _, ht⟩
      · cases e
      · injection e with e1 _ _
        injection e1 with e1
        injection e1 with e1
        subst e1
        have e2 := congrArg List.length ht
        simp at e2
        refine ⟨cur, k68 hg', by omega, fun j _ hj => ?_⟩
        have e3 : ((List.range ll.length).map rv)[j]? = some (rv j) := by simp [hj]
        rw [← ht, List.getElem?_take_of_lt (by omega)] at e3
        simpa using e3
    · have hr := HPM.out.r1 j _ hj (lOf_get hj)
      rcases hr.2 with ⟨e, _⟩ | ⟨g', cap, cur, e, _, hg', _, _, _, ht⟩
      · rw [e] at hg; simp [Value.ownBlock] at hg
      · rw [e] at hg
        obtain rfl : g' = g := by simpa [Value.ownBlock] using hg
        refine ⟨cur, k68 hg', ?_⟩
        have e2 := congrArg List.length ht
        simp [ifL] at e2
        unfold clOf
        omega
    · have hr := HPM.out.r1 j _ hj (lOf_get hj)
      rcases hr.2 with ⟨e, h0⟩ | ⟨g', cap, cur, e, _⟩
      · exact ⟨none, 0, by rw [e]; unfold clOf; rw [h0], fun x => by unfold clOf at x; omega⟩
      · exact ⟨_, cap, e, fun _ => ⟨g', rfl⟩⟩
  have HTP : Hid (0 < ll.length → ∃ gt, pt = some ⟨gt, 0, none⟩) := fun h0 => by
    obtain ⟨gt, c', e⟩ := slice_pos (row_base HPM.out.o1) h0
    injection e with e _ _
    exact ⟨gt, e⟩
  have HCl : Hid (∀ j, clOf ll j ≤ 1048576) := fun j => by
    unfold clOf lOf
    rw [List.getD_eq_getElem?_getD]
    cases hz : ll[j]? with
    | none => simp
    | some l => exact HLS.out l (List.mem_of_getElem? hz)
  clear c78 HT7 HS7
  go_wp2_with fail
  go_loopw [14] (fun s wx => ∃ i : Nat, i ≤ ll.length ∧ s = .int .i64 (i : Int) ∧ Hid ((∀ gt, pt = some ⟨gt, 0, none⟩ → Wp w8 wx ll gt ct rv i) ∧ Chg (mineS ll.length (.slice pt ll.length ct) rv) w8 wx)) (fun s _ => ll.length - (intOf s).toNat)
  case atStart => exact ⟨0, Nat.zero_le _, rfl, HW0.out, Chg.refl _ _⟩
  case round =>
    obtain ⟨i, hil, rfl, HX⟩ := hrel
    obtain ⟨w9, hw9⟩ : ∃ w9, w9 = wr := ⟨_, rfl⟩
    subst hw9
    by_cases hi : i < ll.length
    · have z1 : (i : Int) < (ll.length : Int) := by omega
      obtain ⟨gt, egt⟩ := HTP.out (by omega)
      subst egt
      have HWp := keepH (HX.out.1 gt rfl)
      obtain ⟨pi, ci, eri, hgi⟩ := HWp.out.sh i hi
      obtain ⟨n, hn⟩ : ∃ n, n = clOf ll i := ⟨_, rfl⟩
      have hn20 : n ≤ 1048576 := by rw [hn]; exact HCl.out i
      rw [← hn] at eri hgi
      have HN := keepH hn
      have HRI := keepH eri
      have HGI := keepH hgi
      clear HX hn eri hgi
      go_wp2_with fail
      go_loopw [15] (fun s wx => ∃ k : Nat, k ≤ n ∧ s = .int .i64 (k : Int) ∧ Hid (Wp w8 wx ll gt ct rv i)) (fun s _ => n - (intOf s).toNat)
      case atStart => exact ⟨0, Nat.zero_le _, rfl, HWp.out⟩
      case round =>
        obtain ⟨k, hkn, rfl, HY⟩ := hrel
        obtain ⟨w10, hw10⟩ : ∃ w10, w10 = wr := ⟨_, rfl⟩
        subst hw10
        have y0 : w10.cell? ⟨gt, i, none⟩ = some (.slice pi n ci) := by
          obtain ⟨cur, a1, a2, a3⟩ := HY.out.tb
          rw [cell_of a1 i, a3 i (Nat.le_refl _) hi, HRI.out]
        have yf : w10.frozen? ⟨gt, i, none⟩ = false := by
          obtain ⟨cur, a1, _⟩ := HY.out.tb
          exact free_of a1 i
        by_cases hk : k < n
        · have z2 : (k : Int) < (n : Int) := by omega
          obtain ⟨g, rfl⟩ := HGI.out (by omega)
          have hro : (rv i).ownBlock = some g := by rw [HRI.out]; rfl
          obtain ⟨cu, b1, b2⟩ := HY.out.rb i g hi hro
          obtain ⟨u, hu⟩ : ∃ u, w10.cell? ⟨g, k, none⟩ = some u := ⟨cu[k]'(by have := HN.out; omega), by rw [cell_of b1 k]; simp [show k < cu.size by have := HN.out; omega]⟩
          have hfr := free_of b1 k
          have HRO := keepH hro
          clear b1 b2 hro
          go_wp2_with fail
          go_roundw
          case rel => exact ⟨k + 1, by omega, by first | rfl | go_num, HY.out.cell i hi HRO.out _⟩
          case measure => simp [intOf]; omega
        · have z2 : ¬ (k : Int) < (n : Int) := by omega
          go_wp2_with fail
          go_roundw
          case rel => exact ⟨i + 1, by omega, by first | rfl | go_num, fun gt' e => by injection e with e; injection e with e; subst e; exact HY.out.row _, (HY.out.row _).chg⟩
          case measure => simp [intOf]; omega
    · have z1 : ¬ (i : Int) < (ll.length : Int) := by omega
      have HCE : Hid (Chg (fun _ => False) V w9) := ((HMid.out.chg.trans HPM.out.chg (H := fun _ => False) (fun _ _ x => x) (fun _ _ x => x)).trans HC78.out (H := fun _ => False) (fun _ _ x => x) (fun _ _ x => x)).trans HX.out.2 (fun _ _ x => x) (fun k hk e => by have := (HMS.out k e).1; omega)
      clear HX
      go_wp2_with fail
      go_ret3
      exact ⟨⟨_, by simp; rfl⟩, HCE.out.alloc _⟩
end Go.Proofs.YtnhiodmigmmfgaaGreat
