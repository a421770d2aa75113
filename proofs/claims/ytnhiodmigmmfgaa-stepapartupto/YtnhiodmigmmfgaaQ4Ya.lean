/- A new runner: the parts. -/
import Derived.Test.YtnhiodmigmmfgaaQ3SPickIn
import Derived.Deep.CutRange
import Derived.Test.YtnhiodmigmmfgaaQ2SRun
import Derived.Deep.RegionHeld
import Derived.Deep.RegionHeld3
namespace Go.Proofs.Ytnhiodmigmmfgaa
open Go.RowKit Go.Shelf

theorem infoP : (Try.prog.info? 77).map (fun i => (i.zero, i.size, i.bytes)) = some (some .nilIface, 1, 16) := by kernel_rfl
def thrV (cv : Value) (next : Int) (begun : Bool) : Value := .agg #[cv, .int .i64 next, .bool begun]
theorem infoT : (Try.prog.info? 94).map (fun i => (i.zero, i.size, i.bytes)) = some (some (thrV (.slice none 0 0) 0 false), 3, 40) := by kernel_rfl

/-- Threads of procs, as they are handed in. -/
structure Lists (W : World) (v : Value) (tl : List (Value × List Value)) : Prop where
  outer : W.ownsRow 0 59 1 v tl.length (tl.map Prod.fst)
  inner : ∀ x ∈ tl, W.ownsRow 0 77 1 x.1 x.2.length x.2
  one : ∀ x ∈ tl, ∀ u ∈ x.2, u.oneCell' = true
theorem Lists.chg {W W' : World} {v : Value} {tl : List (Value × List Value)} (h : Lists W v tl) (hc : Chg (fun _ => False) W W') : Lists W' v tl :=
  ⟨row_kept h.outer fun k e => hc.block k (row_lt h.outer k e) (fun h => h), fun x hx => row_kept (h.inner x hx) fun k e => hc.block k (row_lt (h.inner x hx) k e) (fun h => h), h.one⟩
theorem Lists.cell {W : World} {g n c : Nat} {tl : List (Value × List Value)} (h : Lists W (.slice (some ⟨g, 0, none⟩) n c) tl) (i : Nat) (x : Value × List Value) (hx : tl[i]? = some x) : W.cell? ⟨g, i, none⟩ = some x.1 := by
  have hi : i < tl.length := (List.getElem?_eq_some_iff.1 hx).1
  have e : n = tl.length := by
    rcases h.outer.2 with ⟨h2, _⟩ | ⟨_, _, _, h2, _⟩
    · simp at h2
    · simp at h2; exact h2.2.1
  subst e
  rw [World.ownsRow.cellAt h.outer i (by omega)]
  simp [hx]

def tooLongB (tl : List (Value × List Value)) : Bool := decide (64 < tl.length) || tl.any (fun x => decide (4096 < x.2.length))

set_option maxRecDepth 100000 in
set_option maxHeartbeats 1000000 in
theorem s_tooLong (v : Value) (tl : List (Value × List Value)) (W : World) (h : Lists W v tl) (hl : tl.length ≤ 1099511627776) (hi : ∀ x ∈ tl, x.2.length ≤ 1099511627776) :
    Calls Try.prog 27 #[v] W fun e W' => e = .returned (.bool (tooLongB tl)) ∧ W' = W := by
  have H := keepH h
  have HI := keepH hi
  obtain ⟨p, c, hv⟩ := slice_of h.outer
  subst hv
  clear h hi
  by_cases h1 : 64 < tl.length
  · have t1 : (64 : Int) < (tl.length : Int) := by omega
    go_enter Try.func27, Try.ntmps27
    go_wp2_with fail
    go_ret
    exact ⟨by simp [tooLongB, h1], rfl⟩
  · have t1 : ¬ (64 : Int) < (tl.length : Int) := by omega
    go_enter Try.func27, Try.ntmps27
    go_wp2_with fail
    go_loopw [10] (fun s wr => ∃ k : Nat, k ≤ tl.length ∧ s = .int .i64 (k : Int) ∧ wr = W ∧ Hid (∀ j x, j < k → tl[j]? = some x → ¬ 4096 < x.2.length)) (fun s _ => tl.length - (intOf s).toNat)
    case atStart => exact ⟨0, by omega, rfl, rfl, fun j x hj => absurd hj (Nat.not_lt_zero _)⟩
    case round =>
      obtain ⟨k, hk, rfl, rfl, HK⟩ := hrel
      by_cases hlt : k < tl.length
      · have t2 : (k : Int) < (tl.length : Int) := by omega
        obtain ⟨x, hx⟩ : ∃ x, tl[k]? = some x := ⟨tl[k], List.getElem?_eq_getElem hlt⟩
        obtain ⟨g, c', hg⟩ := slice_pos H.out.outer (by omega)
        simp only [Value.slice.injEq, true_and] at hg
        obtain ⟨rfl, rfl⟩ := hg
        have hc := H.out.cell k x hx
        obtain ⟨px, cx, hxs⟩ := slice_of (H.out.inner x (List.mem_of_getElem? hx))
        rw [hxs] at hc
        by_cases h2 : 4096 < x.2.length
        · have t3 : (4096 : Int) < (x.2.length : Int) := by omega
          go_wp2_with fail
          go_ret
          refine ⟨?_, rfl⟩
          have e : tl.any (fun x => decide (4096 < x.2.length)) = true := List.any_eq_true.2 ⟨x, List.mem_of_getElem? hx, by simpa using h2⟩
          simp [tooLongB, e]
        · have t3 : ¬ (4096 : Int) < (x.2.length : Int) := by omega
          go_wp2_with fail
          go_roundw
          case rel => exact ⟨k + 1, by omega, by go_num, by first | trivial | rfl, fun j y hj hy => by
              by_cases e : j = k
              · subst e
                rw [hx] at hy
                simp at hy
                subst hy
                exact h2
              · exact HK.out j y (by omega) hy⟩
          case measure => simp [intOf]; omega
      · obtain rfl : k = tl.length := by omega
        go_wp2_with fail
        go_ret
        refine ⟨?_, rfl⟩
        have e : tl.any (fun x => decide (4096 < x.2.length)) = false := by
          rw [List.any_eq_false]
          intro x hx
          obtain ⟨j, hj⟩ := List.getElem?_of_mem hx
          have := HK.out j x (List.getElem?_eq_some_iff.1 hj).1 hj
          simpa using this
        simp [tooLongB, e, h1]

set_option maxRecDepth 100000 in
theorem clone_p (v : Value) (n : Nat) (xs : List Value) (W : World) (h : W.ownsRow 0 77 1 v n xs) (hn : n ≤ 1099511627776) (h1 : ∀ u ∈ xs, u.oneCell' = true) :
    Calls Try.prog 28 #[v] W fun e W' => ∃ v', e = .returned v' ∧ W'.ownsRow 0 77 1 v' n xs ∧ Chg (fun _ => False) W W' ∧ ∀ k, v'.ownBlock = some k → W.heap.size ≤ k := by
  obtain ⟨i0, hi, hz0, hz1, hz2⟩ := info_parts infoP
  have q1 : ∀ (w : World) (a : Option Addr) (n c n' c' : Nat), (binOp .eql 59 (.slice a n c) (.slice none n' c')).run Try.prog w = .ok (.bool a.isNone) w := fun w a n c n' c' => Lib.run_eql_slice_nil w _ _ a n c n' c' Try.underlying59
  rcases h.2 with ⟨rfl, rfl⟩ | ⟨g, cap, cur, rfl, _⟩
  · have hx : xs = [] := List.eq_nil_of_length_eq_zero (by simpa using h.1)
    subst hx
    clear h h1
    go_enter Try.func28, Try.ntmps28
    go_wp2_with fail
    go_ret
    exact ⟨.slice none 0 0, by simp, World.ownsRow_nil _ _ _ _, Chg.refl _ _, fun k e => by simp [Value.ownBlock] at e⟩
  · have H := keepH h
    have H1 := keepH h1
    have hxl := h.1
    clear h h1
    go_enter Try.func28, Try.ntmps28
    go_wp2_with (at_builtin; refine wpList_append_own_at _ rfl _ _ 59 rfl 0 77 i0 .nilIface 1 16 Try.underlying59 hi hz0 hz1 hz2 rfl (by decide) (.slice (some ⟨W.heap.size, 0, none⟩) 0 0) 0 [] rfl ⟨rfl, .inr ⟨W.heap.size, 0, #[], rfl, Nat.zero_le _, heap_alloc_new _ _, Nat.le_refl _, by unfold maxLen; omega, rfl, rfl⟩⟩ ⟨g, 0, none⟩ n cap xs rfl hxl (fun j u hj => ((H.out.alloc _).cells (g := g) rfl j u hj)) H1.out (by unfold maxLen; omega) (by omega) (Nat.zero_le _) ?_; intro v' w1 r1 r2 r3 r4; have R1 := keepH r1; have R4 := keepH r4; clear r1 r3 r4)
    go_ret
    refine ⟨v', by simp, ?_, ((Chg.refl _ W).alloc _).grown r2 (fun k e hk => by simp [Value.ownBlock] at e; omega), fun k e => ?_⟩
    · have e := R1.out
      simpa using e
    · rcases R4.out with e2 | e2
      · rw [e2] at e
        simp [Value.ownBlock] at e
        omega
      · rw [e2] at e
        simp at e
        omega

def vwOf (vbs : List Nat) : List Value := vbs.map (fun b => Value.pointer (some ⟨b, 0, none⟩)) ++ List.replicate (64 - vbs.length) (.pointer none)
theorem vwOf_get (vbs : List Nat) (i : Nat) (b : Nat) (h : vbs[i]? = some b) : (vwOf vbs)[i]? = some (.pointer (some ⟨b, 0, none⟩)) := by
  have hi : i < vbs.length := (List.getElem?_eq_some_iff.1 h).1
  rw [vwOf, List.getElem?_append_left (by simpa using hi)]
  simp [h]
theorem vwOf_set (vbs : List Nat) (b : Nat) (h : vbs.length < 64) : (vwOf vbs).set vbs.length (.pointer (some ⟨b, 0, none⟩)) = vwOf (vbs ++ [b]) := by
  obtain ⟨m, hm⟩ : ∃ m, 64 - vbs.length = m + 1 := ⟨63 - vbs.length, by omega⟩
  have hm2 : 64 - (vbs ++ [b]).length = m := by simp; omega
  rw [vwOf, vwOf, hm, hm2, List.set_append_right _ _ (by simp)]
  simp [List.replicate_succ]

section
variable {W Y : World} {G : Nat → Prop} {r m : Nat} {vw : List Value} {tv ev av : Value} {ths : List Thr} {steps : Nat} {evs : List Ev} {ats : List Int}
theorem RunAt.setView (h : RunAt W G r m vw tv ev av ths steps evs ats) (i : Nat) (hi : i < 64) (v : Value) : RunAt (W.setCell ⟨r, 1 + i, none⟩ v) G r m (vw.set i v) tv ev av ths steps evs ats := by
  have ob : ∀ k, k ≠ r → (W.setCell ⟨r, 1 + i, none⟩ v).heap[k]? = W.heap[k]? := fun k hk => Below.heap_setCell _ _ _ _ hk
  refine ⟨?_, by simpa using h.vlen, row_kept h.tr fun k e => ob k (fun e2 => block_apart h.tr h.blk (by decide) (by rw [e, e2])), fun x hx => row_kept (h.calls x hx) fun k e => ob k (fun e2 => block_apart (h.calls x hx) h.blk (by decide) (by rw [e, e2])), row_kept h.er fun k e => ob k (fun e2 => block_apart h.er h.blk (by decide) (by rw [e, e2])), row_kept h.ar fun k e => ob k (fun e2 => block_apart h.ar h.blk (by decide) (by rw [e, e2])), h.inr, h.int, h.inc, h.ine, h.ina, fun k e => by simpa [World.setCell] using h.lt k e, h.thl, h.nxt⟩
  have e := set_of h.blk (1 + i) v
  rw [e]
  congr 2
  apply Array.ext'
  simp only [Array.toList_setIfInBounds]
  exact runL_setv m vw tv steps ev av h.vlen i hi v
/-- One thread more. -/
theorem RunAt.moreThr (h : RunAt W G r m vw tv ev av ths steps evs ats) {tv' : Value} {x : Thr} (hy : ∀ k, G k → tv.ownBlock ≠ some k → Y.heap[k]? = W.heap[k]?) (hs : W.heap.size ≤ Y.heap.size) (hrow : Y.ownsRow 0 94 3 tv' (ths ++ [x]).length (thrRow (ths ++ [x])))
    (hc : Y.ownsRow 0 77 1 x.cv x.calls.length x.calls) (hl : ths.length < 64) (hn : x.next ≤ x.calls.length ∧ x.calls.length ≤ 4096) :
    RunAt (Y.setCell ⟨r, 65, none⟩ tv') (fun k => (G k ∨ tv'.ownBlock = some k) ∨ x.cv.ownBlock = some k) r m vw tv' ev av (ths ++ [x]) steps evs ats := by
  have hr : Y.heap[r]? = some (.cells (runL m vw tv steps ev av).toArray 91 (0, 0)) := (hy r h.inr (block_apart h.tr h.blk (by decide))).trans h.blk
  have ob : ∀ k, k ≠ r → (Y.setCell ⟨r, 65, none⟩ tv').heap[k]? = Y.heap[k]? := fun k hk => Below.heap_setCell _ _ _ _ hk
  refine ⟨?_, h.vlen, row_kept hrow fun k e => ob k (fun e2 => block_apart hrow hr (by decide) (by rw [e, e2])), fun y hy' => ?_,
    row_kept h.er fun k e => (ob k (fun e2 => block_apart h.er h.blk (by decide) (by rw [e, e2]))).trans (hy k (h.ine k e) (fun e2 => rows_apart h.tr h.er (by decide) k e2 e)),
    row_kept h.ar fun k e => (ob k (fun e2 => block_apart h.ar h.blk (by decide) (by rw [e, e2]))).trans (hy k (h.ina k e) (fun e2 => rows_apart h.tr h.ar (by decide) k e2 e)),
    .inl (.inl h.inr), fun k e => .inl (.inr e), fun y hy' k e => ?_, fun k e => .inl (.inl (h.ine k e)), fun k e => .inl (.inl (h.ina k e)), ?_, by simp; omega, fun y hy' => ?_⟩
  · have e := set_of hr 65 tv'
    rw [e]
    congr 2
    apply Array.ext'
    simp only [Array.toList_setIfInBounds]
    exact runL_set m vw tv steps ev av h.vlen 0 _
  · rcases List.mem_append.1 hy' with hy' | hy'
    · exact row_kept (h.calls y hy') fun k e => (ob k (fun e2 => block_apart (h.calls y hy') h.blk (by decide) (by rw [e, e2]))).trans (hy k (h.inc y hy' k e) (fun e2 => rows_apart h.tr (h.calls y hy') (by decide) k e2 e))
    · obtain rfl := List.mem_singleton.1 hy'
      exact row_kept hc fun k e => ob k (fun e2 => block_apart hc hr (by decide) (by rw [e, e2]))
  · rcases List.mem_append.1 hy' with hy' | hy'
    · exact .inl (.inl (h.inc y hy' k e))
    · obtain rfl := List.mem_singleton.1 hy'
      exact .inr e
  · intro k e
    have s : (Y.setCell ⟨r, 65, none⟩ tv').heap.size = Y.heap.size := by simp [World.setCell]
    rw [s]
    rcases e with (e | e) | e
    · exact Nat.lt_of_lt_of_le (h.lt k e) hs
    · exact row_lt hrow k e
    · exact row_lt hc k e
  · rcases List.mem_append.1 hy' with hy' | hy'
    · exact h.nxt y hy'
    · obtain rfl := List.mem_singleton.1 hy'
      exact hn
end
end Go.Proofs.Ytnhiodmigmmfgaa
/- A new runner. -/
namespace Go.Proofs.Ytnhiodmigmmfgaa
open Go.RowKit Go.Shelf

def freshThr (x : Value × List Value) (t : Thr) : Prop := t.calls = x.2 ∧ t.next = 0 ∧ t.begun = false

/-- A runner that is being made: so many threads have their views. -/
structure Made (W X : World) (G : Nat → Prop) (r m b : Nat) (tv : Value) (tl : List (Value × List Value)) (ths : List Thr) (vbs : List Nat) (k : Nat) : Prop where
  run : RunAt X G r m (vwOf vbs) tv (.slice none 0 0) (.slice none 0 0) ths 0 [] []
  vl : vbs.length = k
  tlen : ths.length ≤ k
  views : ∀ (j v : Nat), vbs[j]? = some v → IsView X v b (j : Int) 0 ∧ W.heap.size ≤ v ∧ ¬ G v
  apart : ∀ (i j v w : Nat), i ≠ j → vbs[i]? = some v → vbs[j]? = some w → v ≠ w
  thr : ∀ (j : Nat) (t : Thr), ths[j]? = some t → ∃ x, tl[j]? = some x ∧ freshThr x t
  inG : ∀ k, G k → W.heap.size ≤ k
  chg : Chg (fun _ => False) W X

theorem Made.quiet {W X Y : World} {G : Nat → Prop} {r m b k : Nat} {tv : Value} {tl : List (Value × List Value)} {ths : List Thr} {vbs : List Nat} (h : Made W X G r m b tv tl ths vbs k) (hc : Chg (fun _ => False) X Y) : Made W Y G r m b tv tl ths vbs k :=
  ⟨h.run.chg hc (fun _ _ h => h), h.vl, h.tlen, fun j v hv => ⟨(h.views j v hv).1.chg hc (fun h => h), (h.views j v hv).2⟩, h.apart, h.thr, h.inG, h.chg.trans hc (fun _ _ x => x) (fun _ _ x => x)⟩

theorem Made.view {W X Y : World} {G : Nat → Prop} {r m b k : Nat} {tv : Value} {tl : List (Value × List Value)} {ths : List Thr} {vbs : List Nat} (h : Made W X G r m b tv tl ths vbs k) (hk : k < 64) (hY : Chg (fun _ => False) X Y) (v : Nat) (hv : IsView Y v b (k : Int) 0) (hn : X.heap.size ≤ v) :
    Made W (Y.setCell ⟨r, 1 + k, none⟩ (.pointer (some ⟨v, 0, none⟩))) G r m b tv tl ths (vbs ++ [v]) (k + 1) := by
  have h1 := h.quiet hY
  have hc : Chg (fun k => k = r) Y (Y.setCell ⟨r, 1 + k, none⟩ (.pointer (some ⟨v, 0, none⟩))) := (Chg.refl (fun k => k = r) Y).setCell (p := ⟨r, 1 + k, none⟩) (fun _ => rfl) _
  have hvG : ¬ G v := fun e => by have := h.run.lt v e; omega
  have hs := h.chg.size
  refine ⟨?_, by simp [h.vl], by have := h.tlen; omega, fun j u hu => ?_, fun i j u w hij hu hw => ?_, h.thr, h.inG, h1.chg.trans hc (fun _ _ x => x) (fun i hi x => by have := h.inG r h.run.inr; omega)⟩
  · have e := h1.run.setView k hk (.pointer (some ⟨v, 0, none⟩))
    have e2 := vwOf_set vbs v (by rw [h.vl]; exact hk)
    rw [h.vl] at e2
    rw [e2] at e
    exact e
  · by_cases hj : j < vbs.length
    · rw [List.getElem?_append_left hj] at hu
      obtain ⟨a1, a2, a3⟩ := h1.views j u hu
      exact ⟨a1.chg hc (fun e => a3 (by rw [e]; exact h.run.inr)), a2, a3⟩
    · have hjk : j = k := by
        have h2 := (List.getElem?_eq_some_iff.1 hu).1
        rw [List.length_append] at h2
        simp at h2
        have h3 := h.vl
        omega
      subst hjk
      rw [List.getElem?_append_right (by rw [h.vl]; omega)] at hu
      simp [h.vl] at hu
      subst hu
      exact ⟨hv.chg hc (fun e => hvG (by rw [e]; exact h.run.inr)), by omega, hvG⟩
  · have old : ∀ (j z : Nat), vbs[j]? = some z → z < X.heap.size := fun j z hz => (h.views j z hz).1.lt
    by_cases hi : i < vbs.length
    · rw [List.getElem?_append_left hi] at hu
      by_cases hj : j < vbs.length
      · rw [List.getElem?_append_left hj] at hw
        exact h.apart i j u w hij hu hw
      · rw [List.getElem?_append_right (by omega)] at hw
        have := List.mem_of_getElem? hw
        simp at this
        have := old i u hu
        omega
    · rw [List.getElem?_append_right (by omega)] at hu
      have hu' := List.mem_of_getElem? hu
      simp at hu'
      by_cases hj : j < vbs.length
      · rw [List.getElem?_append_left hj] at hw
        have := old j w hw
        omega
      · have h2 := (List.getElem?_eq_some_iff.1 hu).1
        rw [List.getElem?_append_right (by omega)] at hw
        have h3 := (List.getElem?_eq_some_iff.1 hw).1
        simp at h2 h3
        omega

theorem Made.start (W : World) (m b : Nat) (tl : List (Value × List Value)) (Y : World) (hY : Y = W.alloc (.cells (runL m (vwOf []) (.slice none 0 0) 0 (.slice none 0 0) (.slice none 0 0)).toArray 91)) : Made W Y (fun k => k = W.heap.size) W.heap.size m b (.slice none 0 0) tl [] [] 0 := by
  subst hY
  refine ⟨⟨heap_alloc_new _ _, by simp [vwOf], World.ownsRow_nil _ _ _ _, fun x hx => by simp at hx, World.ownsRow_nil _ _ _ _, World.ownsRow_nil _ _ _ _, rfl, fun k e => by simp [Value.ownBlock] at e, fun x hx => by simp at hx, fun k e => by simp [Value.ownBlock] at e, fun k e => by simp [Value.ownBlock] at e, fun k e => by simp [e], by simp, fun x hx => by simp at hx⟩, rfl, by simp, fun j v hv => by simp at hv, fun i j v w _ hv => by simp at hv, fun j t ht => by simp at ht, fun k e => by omega, (Chg.refl _ W).alloc _⟩

theorem Made.more {W X w3 Y : World} {G : Nat → Prop} {r m b k g' c4 : Nat} {tv v3 : Value} {tl : List (Value × List Value)} {ths : List Thr} {vbs : List Nat} {x : Value × List Value} {ob : Obj} (h : Made W X G r m b tv tl ths vbs (k + 1)) (htl : ths.length = k) (hx : tl[k]? = some x) (hk : k < 64)
    (hC : Chg (fun _ => False) X w3) (r3 : w3.ownsRow 0 77 1 v3 x.2.length x.2) (f3 : ∀ j, v3.ownBlock = some j → X.heap.size ≤ j) (t3 : w3.ownsRow 0 94 3 tv k (thrRow ths)) (hg : (w3.alloc ob).grownBy Y tv.ownBlock)
    (ho : Y.ownsRow 0 94 3 (.slice (some ⟨g', 0, none⟩) (k + 1) c4) (k + 1) (thrRow ths ++ [v3, .int .i64 0, .bool false])) (hw : tv.ownBlock = some g' ∨ w3.heap.size ≤ g') (hl : x.2.length ≤ 4096) :
    Made W (Y.setCell ⟨r, 65, none⟩ (.slice (some ⟨g', 0, none⟩) (k + 1) c4)) (fun j => (G j ∨ (Value.slice (some ⟨g', 0, none⟩) (k + 1) c4).ownBlock = some j) ∨ v3.ownBlock = some j) r m b (.slice (some ⟨g', 0, none⟩) (k + 1) c4) tl (ths ++ [⟨v3, x.2, 0, false⟩]) vbs (k + 1) := by
  have s1 := hC.size
  have s2 : w3.heap.size + 1 ≤ Y.heap.size := by have := hg.size; simpa using this
  have sW := h.chg.size
  have yw : ∀ j, j < w3.heap.size → tv.ownBlock ≠ some j → Y.heap[j]? = w3.heap[j]? := fun j hj hn => (hg.block j (by simp; omega) (fun e => hn e.symm)).trans (Below.heap_alloc _ _ _ hj)
  have yx : ∀ j, j < X.heap.size → tv.ownBlock ≠ some j → Y.heap[j]? = X.heap[j]? := fun j hj hn => (yw j (by omega) hn).trans (hC.block j hj (fun h => h))
  have hrow : Y.ownsRow 0 94 3 (.slice (some ⟨g', 0, none⟩) (k + 1) c4) (ths ++ [(⟨v3, x.2, 0, false⟩ : Thr)]).length (thrRow (ths ++ [(⟨v3, x.2, 0, false⟩ : Thr)])) := by
    rw [List.length_append, htl]
    simpa [thrRow, Thr.cells] using ho
  have hcr : Y.ownsRow 0 77 1 v3 x.2.length x.2 := row_kept r3 fun j e => yw j (row_lt r3 j e) (fun e2 => rows_apart r3 t3 (by decide) j e e2)
  have e := h.run.moreThr (Y := Y) (x := ⟨v3, x.2, 0, false⟩) (fun j hj hn => yx j (h.run.lt j hj) hn) (by omega) hrow hcr (by omega) ⟨Nat.zero_le _, hl⟩
  have gin : ∀ j, (Value.slice (some ⟨g', 0, none⟩) (k + 1) c4).ownBlock = some j → G j ∨ w3.heap.size ≤ j := fun j ej => by
    simp [Value.ownBlock] at ej
    subst ej
    exact hw.imp (h.run.int g') (fun e => e)
  refine ⟨e, h.vl, by simp [htl], fun j v hv => ?_, h.apart, fun j t ht => ?_, fun j ej => ?_, ?_⟩
  · obtain ⟨a1, a2, a3⟩ := h.views j v hv
    have hvl := a1.lt
    refine ⟨?_, a2, fun ej => ?_⟩
    · exact (Below.heap_setCell _ _ _ _ (fun e => a3 (by rw [show v = r from e]; exact h.run.inr))).trans ((yx v hvl (fun e => a3 (h.run.int v e))).trans a1)
    · rcases ej with (ej | ej) | ej
      · exact a3 ej
      · rcases gin v ej with e | e
        · exact a3 e
        · omega
      · have := f3 v ej
        omega
  · by_cases hj : j < ths.length
    · rw [List.getElem?_append_left hj] at ht
      exact h.thr j t ht
    · rw [List.getElem?_append_right (by omega)] at ht
      have h2 := (List.getElem?_eq_some_iff.1 ht).1
      have ht' := List.mem_of_getElem? ht
      simp at h2 ht'
      have hjk : j = k := by omega
      subst hjk
      subst ht'
      exact ⟨x, hx, rfl, rfl, rfl⟩
  · rcases ej with (ej | ej) | ej
    · exact h.inG j ej
    · rcases gin j ej with e | e
      · exact h.inG j e
      · omega
    · have := f3 j ej
      omega
  · refine ⟨hg.os.trans (hC.os.trans h.chg.os), hg.tape.trans (hC.tape.trans h.chg.tape), hg.output.trans (hC.output.trans h.chg.output), ?_, fun j hj _ => ?_⟩
    · simp [World.setCell]
      omega
    · have nG : ¬ G j := fun e => by have := h.inG j e; omega
      exact (Below.heap_setCell _ _ _ _ (fun e => nG (by rw [show j = r from e]; exact h.run.inr))).trans ((yx j (by omega) (fun e => nG (h.run.int j e))).trans (h.chg.block j hj (fun h => h)))

set_option maxRecDepth 100000 in
theorem s_new_long (m : Nat) (v : Value) (tl : List (Value × List Value)) (W : World) (h : Lists W v tl) (hl : tl.length ≤ 1099511627776) (hi : ∀ x ∈ tl, x.2.length ≤ 1099511627776) (hb : tooLongB tl = true) :
    Calls Try.prog 11 #[.pointer (some ⟨m, 0, none⟩), v] W fun e W' => e = .returned (.tuple #[.pointer none, .int .i64 6]) ∧ W' = W := by
  have H := keepH h
  have HI := keepH hi
  clear h hi
  go_enter Try.func11, Try.ntmps11
  go_wp2_with fail
  refine (s_tooLong v tl _ H.out hl HI.out).mono ?_
  rintro e w' ⟨rfl, rfl⟩
  go_wp2_with fail
  go_ret2
  exact ⟨by simp, rfl⟩

set_option maxRecDepth 100000 in
set_option maxHeartbeats 8000000 in
theorem s_new (m b : Nat) (v : Value) (tl : List (Value × List Value)) (W : World) (hm : IsMem W m b) (h : Lists W v tl) (hb : tooLongB tl = false) :
    Calls Try.prog 11 #[.pointer (some ⟨m, 0, none⟩), v] W fun e W' => ∃ r G tv ths vbs, e = .returned (.tuple #[.pointer (some ⟨r, 0, none⟩), .int .i64 0]) ∧ Made W W' G r m b tv tl ths vbs tl.length ∧ ths.length = tl.length := by
  obtain ⟨i0, hi, hz0, hz1, hz2⟩ := info_parts infoT
  have hb64 : tl.length ≤ 64 := by
    simp only [tooLongB, Bool.or_eq_false_iff, decide_eq_false_iff_not] at hb
    omega
  have hbi : ∀ x ∈ tl, x.2.length ≤ 4096 := by
    simp only [tooLongB, Bool.or_eq_false_iff, decide_eq_false_iff_not, List.any_eq_false, decide_eq_true_eq] at hb
    intro x hx
    have := hb.2 x hx
    omega
  have H := keepH h
  have HM := keepH hm
  have HBI := keepH hbi
  obtain ⟨p, c, hv⟩ := slice_of h.outer
  subst hv
  clear h hm hbi
  go_enter Try.func11, Try.ntmps11
  go_wp2_with fail
  refine (s_tooLong _ tl _ H.out (by omega) (fun x hx => by have := HBI.out x hx; omega)).mono ?_
  rintro e w' ⟨rfl, rfl⟩
  have M0 := keepH (Made.start w' m b tl _ rfl)
  go_wp2_with fail
  go_loopw [18] (fun s wr => ∃ (k : Nat) (G : Nat → Prop) (tv : Value) (ths : List Thr) (vbs : List Nat), k ≤ tl.length ∧ s = .int .i64 (k : Int) ∧ ths.length = k ∧ Hid (Made w' wr G w'.heap.size m b tv tl ths vbs k)) (fun s _ => tl.length - (intOf s).toNat)
  case atStart => exact ⟨0, _, _, _, _, by omega, rfl, rfl, M0⟩
  case round =>
    obtain ⟨k, G, tv, ths, vbs, hk, rfl, htl, HK⟩ := hrel
    by_cases hlt : k < tl.length
    · have t2 : (k : Int) < (tl.length : Int) := by omega
      obtain ⟨x, hx⟩ : ∃ x, tl[k]? = some x := ⟨tl[k], List.getElem?_eq_getElem hlt⟩
      obtain ⟨g, c', hg⟩ := slice_pos H.out.outer (by omega)
      simp only [Value.slice.injEq, true_and] at hg
      obtain ⟨rfl, rfl⟩ := hg
      have hc : wr.cell? ⟨g, k, none⟩ = some x.1 := cell_chg HK.out.chg (H.out.cell k x hx) (fun h => h)
      obtain ⟨px, cx, hxs⟩ := slice_of (H.out.inner x (List.mem_of_getElem? hx))
      rw [hxs] at hc
      have HXS := keepH hxs
      have HX := keepH hx
      have u1 : (k : Int) < 64 := by omega
      have fr : wr.frozen? ⟨w'.heap.size, 1 + k, none⟩ = false := HK.out.run.free (1 + k)
      clear hxs hx
      go_upto_region 9 with fail
      have hrl : w'.heap.size < wr.heap.size := lt_of HK.out.run.blk
      have cv0 : wr.cell? ⟨w'.heap.size, 1 + k, none⟩ = some (.pointer none) := by
        rw [HK.out.run.cellv k (by omega)]
        have e := HK.out.vl
        rw [vwOf, List.getElem?_append_right (by rw [List.length_map]; omega), List.length_map, e, Nat.sub_self, List.getElem?_replicate, if_pos (by omega)]
      have cva : ∀ o, (wr.alloc o).cell? ⟨w'.heap.size, 1 + k, none⟩ = some (.pointer none) := fun o => (World.cell?_of_block (w := wr) (Below.heap_alloc _ _ _ hrl)).trans cv0
      have fra : ∀ o, (wr.alloc o).frozen? ⟨w'.heap.size, 1 + k, none⟩ = false := fun o => (World.frozen?_of_block (w := wr) (Below.heap_alloc _ _ _ hrl)).trans fr
      have HMr : Hid (IsMem wr m b) := HM.out.chg HK.out.chg (fun h => h)
      go_cut [18] from 18 to 43 (fun s18 wx => s18 = .int .i64 (k : Int) ∧ ∃ vb, Hid (Made w' wx G w'.heap.size m b tv tl ths (vbs ++ [vb]) (k + 1)))
      case first =>
        go_region_with (go_at_call 19; refine (m_view m b (k : Int) wr.drew (HMr.out.chg (W' := wr.drew) (Goes.drewN wr (fun _ => False) 1).chg (fun h => h))).mono ?_; rintro e w2 ⟨rfl, rfl⟩)
        all_goals (try go_wp2_with fail)
        all_goals go_meet
        all_goals
          have e := HK.out.view (by omega) (Y := (wr.alloc (.cells #[.iface 85 (.pointer (some ⟨b, 0, none⟩)), .int .i64 (k : Int), .int .i64 0] 109))) ((Chg.refl _ wr).alloc _) wr.heap.size (heap_alloc_new _ _) (Nat.le_refl _)
          rw [World.setCell_alloc_past _ _ _ _ hrl] at e
          exact ⟨rfl, wr.heap.size, e.quiet (Goes.drewN _ (fun _ => False) 1).chg⟩
      case rest =>
        obtain ⟨rfl, vb, HK2⟩ := hcut
        have h65 : wc.cell? ⟨w'.heap.size, 65, none⟩ = some tv := HK2.out.run.cellk 0
        have hrl2 : w'.heap.size < wc.heap.size := lt_of HK2.out.run.blk
        have hxr : Hid (wc.ownsRow 0 77 1 (.slice px x.2.length cx) x.2.length x.2) := by
          have e := row_kept (H.out.inner x (List.mem_of_getElem? HX.out)) (W' := wc) fun j e => HK2.out.chg.block j (row_lt (H.out.inner x (List.mem_of_getElem? HX.out)) j e) (fun h => h)
          rw [HXS.out] at e
          exact e
        have hxo : Hid (∀ u ∈ x.2, u.oneCell' = true) := H.out.one x (List.mem_of_getElem? HX.out)
        have hx96 : x.2.length ≤ 4096 := HBI.out x (List.mem_of_getElem? HX.out)
        obtain ⟨pt, ct, htv⟩ := slice_of HK2.out.run.tr
        rw [htl] at htv
        subst htv
        have HTR : Hid (wc.ownsRow 0 94 3 (.slice pt k ct) k (thrRow ths)) := by have e := HK2.out.run.tr; rw [htl] at e; exact e
        clear hc cv0 cva fra fr
        go_upto_region 10 with fail
        go_region_law (first
          | (refine step_append_own rfl (.tmp 35) (.tmp 39) 89 rfl 94 i0 (thrV (.slice none 0 0) 0 false) 3 40 Try.underlying89 hi hz0 hz1 hz2 rfl (by decide) (.slice pt k ct) k (thrRow ths) rfl (HT3.out.alloc _) ⟨w3.heap.size, 0, none⟩ 1 1 [.slice p3 x.2.length q3, .int .i64 0, .bool false] rfl rfl (cells_new _ _ rfl _ _) hone.out (by unfold maxLen; omega) (by omega) ?_; intro v' w4 hown4 hgr4 _ hwh4; obtain ⟨g', c4, rfl⟩ := slice_pos hown4 (Nat.succ_pos _); have hb4 := keepH ((hgr4.block w'.heap.size (by have := lt_of hb3.out; simp; omega) (fun e => block_apart HT3.out hb3.out (by decide) e.symm)).trans (alloc_of hb3.out _)); have r8 : w4.cell? ⟨w'.heap.size, 65, none⟩ = some (.slice pt k ct) := (cell_of hb4.out 65).trans ((cell_of HK2.out.run.blk 65).symm.trans h65); have rf := free_of hb4.out 65; have HO := keepH hown4; have HW4 := keepH hwh4; have HG4 := keepH hgr4; clear hown4 hwh4 hgr4)
          | (go_simp; go_at_call 28; refine (clone_p _ x.2.length x.2 wc.drew (row_kept (W := wc) hxr.out fun _ _ => rfl) (by omega) hxo.out).mono ?_; rintro e w3 ⟨v3, rfl, R3, C3, B3⟩; have HR3 := keepH R3; have HC3 : Hid (Chg (fun _ => False) wc w3) := ⟨C3.os, C3.tape, C3.output, C3.size, C3.block⟩; have HB3 := keepH B3; have HT3 : Hid (w3.ownsRow 0 94 3 (.slice pt k ct) k (thrRow ths)) := row_kept (W := wc) HTR.out fun j e => HC3.out.block j (row_lt HTR.out j e) (fun h => h); have hb3 := keepH ((HC3.out.block w'.heap.size hrl2 (fun h => h)).trans HK2.out.run.blk); have d65 : w3.cell? ⟨w'.heap.size, 65, none⟩ = some (.slice pt k ct) := (cell_of hb3.out 65).trans ((cell_of HK2.out.run.blk 65).symm.trans h65); have d65a : ∀ o, (w3.alloc o).cell? ⟨w'.heap.size, 65, none⟩ = some (.slice pt k ct) := (fun o => (cell_of (alloc_of hb3.out o) 65).trans ((cell_of HK2.out.run.blk 65).symm.trans h65)); have hone : Hid (∀ u ∈ [v3, .int .i64 0, .bool false], u.oneCell' = true) := (by intro u hu; simp at hu; rcases hu with rfl | rfl | rfl; exact one_slice R3; rfl; rfl); obtain ⟨p3, q3, rfl⟩ := slice_of R3; clear R3 C3 B3))
        all_goals (try go_wp2_with fail)
        all_goals go_roundw
        all_goals first
          | (simp [intOf]; omega)
          | (have hwx : (Value.slice pt k ct).ownBlock = some g' ∨ w3.heap.size ≤ g' := by
               rcases HW4.out with e | e
               · exact .inl e.symm
               · simp [Value.ownBlock] at e
                 exact .inr (by omega)
             exact ⟨k + 1, _, _, ths ++ [⟨.slice p3 x.2.length q3, x.2, 0, false⟩], vbs ++ [vb], by omega, by first | rfl | go_num, by simp [htl], keepH (HK2.out.more htl HX.out (by omega) HC3.out HR3.out HB3.out HT3.out HG4.out HO.out hwx hx96)⟩)
    · obtain rfl : k = tl.length := by omega
      go_wp2_with fail
      go_ret2
      exact ⟨_, G, tv, ths, vbs, by simp, HK.out, htl⟩
end Go.Proofs.Ytnhiodmigmmfgaa
/- Runs of procs of any kind: a memory with one view, its accesses; what a kind of procs is. -/
namespace Go.Proofs.Ytnhiodmigmmfgaa
open Go.RowKit Go.Shelf
set_option linter.unusedVariables false

def Acc.bare (a : Acc) : Acc := { a with vs := .slice none 0 0 }
theorem Bank.ltF {W : World} {F : Nat → Prop} {b most next : Nat} {cs : List Nat} {l : List Acc} (h : Bank W F b most next cs l) (k : Nat) (hk : F k) : k < W.heap.size := by
  obtain ⟨cv, av, h⟩ := h
  exact h.lt k hk
theorem Bank.cells {W : World} {F : Nat → Prop} {b most next : Nat} {cs : List Nat} {l : List Acc} (h : Bank W F b most next cs l) (i : Nat) : cellN cs i < 18446744073709551616 := by
  obtain ⟨cv, av, h⟩ := h
  unfold cellN
  by_cases c : i < cs.length
  · rw [List.getD_eq_getElem?_getD, List.getElem?_eq_getElem c]
    exact h.small _ (List.getElem_mem c)
  · rw [List.getD_eq_getElem?_getD, List.getElem?_eq_none (by omega)]
    simp
/-- A memory with one view, since X0: what has changed lies in F0, the view or D0; what F and D have besides is new. -/
structure AS (X0 X : World) (F0 D0 F D : Nat → Prop) (b v most next : Nat) (th : Int) (made : Nat) (cs : List Nat) (t : List Acc) : Prop where
  bank : ∃ l, Bank X F b most next cs l ∧ l.map Acc.bare = t
  view : IsView X v b th made
  nv : ¬ F v
  dis : ∀ k, D k → ¬ F k ∧ k ≠ v ∧ k < X.heap.size
  chg : Chg (fun k => F0 k ∨ k = v ∨ D0 k) X0 X
  newF : ∀ k, F k → F0 k ∨ X0.heap.size ≤ k
  newD : ∀ k, D k → D0 k ∨ X0.heap.size ≤ k
section
variable {X0 X : World} {F0 D0 F D : Nat → Prop} {b v most next : Nat} {th : Int} {made : Nat} {cs : List Nat} {t : List Acc}
theorem AS.small (h : AS X0 X F0 D0 F D b v most next th made cs t) (i : Nat) : cellN cs i < 18446744073709551616 := by
  obtain ⟨l, B, _⟩ := h.bank
  exact B.cells i
theorem AS.goes {Y : World} {F' : Nat → Prop} {next' made' : Nat} {cs' : List Nat} {l' t' : List Acc} (h : AS X0 X F0 D0 F D b v most next th made cs t) (B : Bank Y F' b most next' cs' l') (V : IsView Y v b th made') (G : GoesV X Y F F' v) (hl : l'.map Acc.bare = t') :
    AS X0 Y F0 D0 F' D b v most next' th made' cs' t' ∧ ∀ k, D k → Y.heap[k]? = X.heap[k]? := by
  obtain ⟨l, B0, _⟩ := h.bank
  have sz := h.chg.size
  refine ⟨⟨⟨l', B, hl⟩, V, fun x => (G.new v x).elim h.nv (fun y => by have := lt_of h.view; omega), fun k hk => ⟨fun x => (G.new k x).elim (h.dis k hk).1 (fun y => by have := (h.dis k hk).2.2; omega), (h.dis k hk).2.1, Nat.lt_of_lt_of_le (h.dis k hk).2.2 G.chg.size⟩,
    h.chg.trans G.chg (fun _ _ x => x) (fun i hi x => x.elim (fun y => (h.newF i y).elim .inl (fun z => by omega)) (fun y => .inr (.inl y))), fun k x => (G.new k x).elim (h.newF k) (fun y => .inr (by omega)), h.newD⟩, fun k hk => G.chg.block k (h.dis k hk).2.2 (fun e => e.elim (h.dis k hk).1 (h.dis k hk).2.1)⟩
theorem AS.load (h : AS X0 X F0 D0 F D b v most next th made cs t) (a : Nat) (ha : a < 18446744073709551616) (h1 : made < 1099511627776) (h2 : t.length < 1099511627776) :
    Calls Try.prog 65 #[.pointer (some ⟨v, 0, none⟩), .int .u64 (a : Int)] X fun e Y => e = .returned (.int .u64 (cellN cs a : Int)) ∧ ∃ F', AS X0 Y F0 D0 F' D b v most next th (made + 1) cs (t ++ [⟨th, 1, a, 0, 0, .slice none 0 0, [], cellN cs a, false⟩]) ∧ ∀ k, D k → Y.heap[k]? = X.heap[k]? := by
  obtain ⟨l, B, L⟩ := h.bank
  have hl : l.length = t.length := by rw [← L]; simp
  refine (v_load v b most next made th a F cs l X h.view B h.nv h1 (by omega) ha).mono ?_
  rintro e Y ⟨rfl, F', vs, B', V', G⟩
  exact ⟨rfl, F', h.goes B' V' G (by simp [L, Acc.bare])⟩
theorem AS.store (h : AS X0 X F0 D0 F D b v most next th made cs t) (a x : Nat) (ha : a < 18446744073709551616) (hx : x < 18446744073709551616) (h1 : made < 1099511627776) (h2 : t.length < 1099511627776) :
    Calls Try.prog 20 #[.pointer (some ⟨v, 0, none⟩), .int .u64 (a : Int), .int .u64 (x : Int)] X fun e Y => e = .returned (.tuple #[]) ∧ ∃ F', AS X0 Y F0 D0 F' D b v most next th (made + 1) (stN most cs a x) (t ++ [⟨th, 2, a, x, 0, .slice none 0 0, [], 0, false⟩]) ∧ ∀ k, D k → Y.heap[k]? = X.heap[k]? := by
  obtain ⟨l, B, L⟩ := h.bank
  have hl : l.length = t.length := by rw [← L]; simp
  refine (v_store v b most next made th a x F cs l X h.view B h.nv h1 (by omega) ha hx).mono ?_
  rintro e Y ⟨rfl, F', vs, B', V', G⟩
  exact ⟨rfl, F', h.goes B' V' G (by simp [L, Acc.bare])⟩
theorem AS.cas (h : AS X0 X F0 D0 F D b v most next th made cs t) (a old now : Nat) (ha : a < 18446744073709551616) (hx : now < 18446744073709551616) (h1 : made < 1099511627776) (h2 : t.length < 1099511627776) :
    Calls Try.prog 66 #[.pointer (some ⟨v, 0, none⟩), .int .u64 (a : Int), .int .u64 (old : Int), .int .u64 (now : Int)] X fun e Y => e = .returned (.bool (casOk most cs a old)) ∧ ∃ F', AS X0 Y F0 D0 F' D b v most next th (made + 1) (casN most cs a old now) (t ++ [⟨th, 3, a, old, now, .slice none 0 0, [], 0, casOk most cs a old⟩]) ∧ ∀ k, D k → Y.heap[k]? = X.heap[k]? := by
  obtain ⟨l, B, L⟩ := h.bank
  have hl : l.length = t.length := by rw [← L]; simp
  refine (v_cas v b most next made th a old now F cs l X h.view B h.nv h1 (by omega) ha hx).mono ?_
  rintro e Y ⟨rfl, F', vs, B', V', G⟩
  exact ⟨rfl, F', h.goes B' V' G (by simp [L, Acc.bare])⟩
/-- What is changed or made of one's own. -/
theorem AS.own {Y : World} {D' : Nat → Prop} (h : AS X0 X F0 D0 F D b v most next th made cs t) (c : Chg D X Y) (hD : ∀ k, D' k → D k ∨ X.heap.size ≤ k) (hl : ∀ k, D' k → k < Y.heap.size) : AS X0 Y F0 D0 F D' b v most next th made cs t := by
  obtain ⟨l, B, L⟩ := h.bank
  have sz := h.chg.size
  have vl := lt_of h.view
  refine ⟨⟨l, B.chg c (fun k hk e => (h.dis k e).1 hk), L⟩, h.view.chg c (fun e => (h.dis v e).2.1 rfl), h.nv, fun k hk => ?_, h.chg.trans c (fun _ _ x => x) (fun i hi x => (h.newD i x).elim (fun y => .inr (.inr y)) (fun y => by omega)), h.newF, fun k hk => (hD k hk).elim (h.newD k) (fun y => .inr (by omega))⟩
  rcases hD k hk with e | e
  · exact ⟨(h.dis k e).1, (h.dis k e).2.1, hl k hk⟩
  · exact ⟨fun x => by have := B.ltF k x; omega, by omega, hl k hk⟩
theorem AS.put {Y : World} (h : AS X0 X F0 D0 F D b v most next th made cs t) (c : Chg D X Y) : AS X0 Y F0 D0 F D b v most next th made cs t :=
  h.own c (fun k e => .inl e) (fun k e => Nat.lt_of_lt_of_le (h.dis k e).2.2 c.size)
theorem AS.less {D' : Nat → Prop} (h : AS X0 X F0 D0 F D b v most next th made cs t) (hD : ∀ k, D' k → D k) : AS X0 X F0 D0 F D' b v most next th made cs t :=
  ⟨h.bank, h.view, h.nv, fun k e => h.dis k (hD k e), h.chg, h.newF, fun k e => h.newD k (hD k e)⟩
end

/-- What a step of a proc comes to: is it done, the cells that were handed out, the cells, the accesses, the proc. -/
structure Out (P : Type) where
  done : Bool
  next : Nat
  cs : List Nat
  acc : List Acc
  s : P
end Go.Proofs.Ytnhiodmigmmfgaa
/- Plans: what their steps do to a memory, in plain numbers. -/
namespace Go.Proofs.Ytnhiodmigmmfgaa
open Go.RowKit
set_option linter.unusedVariables false

structure DoP where
  kd : Int
  ad : Nat
  a : Nat
  b : Nat
  vals : List Nat
structure DoP.Ok (d : DoP) : Prop where
  kd : 0 ≤ d.kd ∧ d.kd < 256
  ad : d.ad < 18446744073709551616
  a : d.a < 18446744073709551616
  b : d.b < 18446744073709551616
  vals : ∀ x ∈ d.vals, x < 18446744073709551616
  len : d.vals.length ≤ 1099511627776
structure Mu where
  next : Nat
  cs : List Nat
def isA (d : DoP) : Bool := decide (1 ≤ d.kd) && decide (d.kd ≤ 5)
def mkR (most : Nat) (m : Mu) (d : DoP) : Nat :=
  if d.kd = 1 then cellN m.cs d.ad else if d.kd = 3 then (if casOk most m.cs d.ad d.a = true then 1 else 0) else if d.kd = 4 then cellN m.cs d.ad else if d.kd = 5 then alAt most m.next d.vals.length else 0
def mkM (most : Nat) (m : Mu) (d : DoP) : Mu :=
  if d.kd = 2 then ⟨m.next, stN most m.cs d.ad d.a⟩ else if d.kd = 3 then ⟨m.next, casN most m.cs d.ad d.a d.b⟩ else if d.kd = 4 then ⟨m.next, stN most m.cs d.ad (addN (cellN m.cs d.ad) d.a)⟩ else if d.kd = 5 then ⟨alNext most m.next d.vals.length, alN most m.next m.cs d.vals⟩ else m
def mkA (th : Int) (most : Nat) (m : Mu) (d : DoP) : Acc :=
  if d.kd = 1 then ⟨th, 1, d.ad, 0, 0, .slice none 0 0, [], cellN m.cs d.ad, false⟩ else if d.kd = 2 then ⟨th, 2, d.ad, d.a, 0, .slice none 0 0, [], 0, false⟩ else if d.kd = 3 then ⟨th, 3, d.ad, d.a, d.b, .slice none 0 0, [], 0, casOk most m.cs d.ad d.a⟩ else if d.kd = 4 then ⟨th, 4, d.ad, d.a, 0, .slice none 0 0, [], cellN m.cs d.ad, false⟩ else ⟨th, 5, alAt most m.next d.vals.length, 0, 0, .slice none 0 0, d.vals, 0, false⟩
def mkG (most : Nat) (m : Mu) (d : DoP) : List Nat := if isA d = true then [mkR most m d] else []
def mkT (th : Int) (most : Nat) (m : Mu) (d : DoP) : List Acc := if isA d = true then [mkA th most m d] else []
theorem mkM_idle {most : Nat} {m : Mu} {d : DoP} (h : isA d = false) : mkM most m d = m := by
  unfold isA at h
  have h2 : ¬ d.kd = 2 := fun e => by rw [e] at h; simp at h
  have h3 : ¬ d.kd = 3 := fun e => by rw [e] at h; simp at h
  have h4 : ¬ d.kd = 4 := fun e => by rw [e] at h; simp at h
  have h5 : ¬ d.kd = 5 := fun e => by rw [e] at h; simp at h
  unfold mkM
  rw [if_neg h2, if_neg h3, if_neg h4, if_neg h5]
/-- A plan; its steps; what it does of its list with so many steps. -/
structure PlP where
  none : Bool
  L : List DoP
def nst (p : PlP) : Nat := if p.none = true then 1 else if p.L.length < 1 then 1 else p.L.length
theorem nst_pos (p : PlP) : 1 ≤ nst p := by unfold nst; split; omega; split <;> omega
def pre (l : List PlP) (i : Nat) : Nat := ((l.take i).map nst).sum
theorem pre_zero (l : List PlP) : pre l 0 = 0 := by simp [pre]
theorem pre_succ {l : List PlP} {i : Nat} {p : PlP} (h : l[i]? = some p) : pre l (i + 1) = pre l i + nst p := by
  unfold pre
  rw [List.take_add_one, h]
  simp
end Go.Proofs.Ytnhiodmigmmfgaa
/- A plan's proc: one step of it, over a memory with one view. -/
namespace Go.Proofs.Ytnhiodmigmmfgaa
open Go.RowKit Go.Shelf
set_option linter.unusedVariables false

theorem step_append_base {P : Program} {ops : Array Oper} {o : Oper} {a : Act} {w : World} {K : Act → World → Prop} {Q : Exit → Act → World → Prop} {E : Prop}
    (hgd : o.guard = none) (s x : Operand) (t : TypeId) (ho : o.op = Op.call { callee := Callee.builtin Builtin.append, args := #[s, x], argTypes := #[t, t] })
    (B : Nat) (e : TypeId) (i : TypeInfo) (z : Value) (size bytes : Nat) (ht : P.underlying t = some (.slice e)) (hi : P.info? e = some i) (hz : i.zero = some z)
    (hsize : i.size = size) (hby : i.bytes = bytes) (hzs : z.cells.size = size) (hsz : 0 < size)
    (v : Value) (n : Nat) (xs : List Value) (hs : a.eval s = v) (hown : w.ownsRow B e size v n xs)
    (ad : Addr) (m c : Nat) (news : List Value) (hx : a.eval x = .slice (some ad) m c) (hl : news.length = m * size) (hnews : ∀ j u, news[j]? = some u → w.cell? (ad.add j) = some u) (h1 : ∀ u ∈ news, u.oneCell' = true)
    (h63 : n + m ≤ maxLen) (hbytes : (n + m) * bytes ≤ 140737488355328) (hB : B ≤ w.heap.size)
    (h : ∀ v' w', w'.ownsRow B e size v' (n + m) (xs ++ news) → w.grownBy w' v.ownBlock → (v'.ownBlock = v.ownBlock ∨ v'.ownBlock = some w.heap.size) → K (a.put o.dst v') w') :
    if Region.wanted o (yielded ops a.tmps) = true then Oper.wp P o a w K Q else E := by
  have hw : Region.wanted o (yielded ops a.tmps) = true := by simp [Region.wanted, hgd]
  rw [if_pos hw]
  obtain ⟨v', w', hr, h2, h3, h4, h5⟩ := run_append_own_at (P := P) w B t o.type e i z size bytes ht hi hz hsize hby hzs hsz v n xs hown ad m c news hl hnews h1 h63 hbytes hB
  unfold Oper.wp execOp
  simp only [ho, resolve, invoke, builtin, Sem.run_bind, Sem.run_pure, Result.andThen_ok, List.map_toArray, List.map_cons, List.map_nil, hs, hx, hr]
  exact h v' w' h2 h3 h5
section
variable {X0 X : World} {F0 D0 F D : Nat → Prop} {b v most next : Nat} {th : Int} {made : Nat} {cs : List Nat} {t : List Acc}
theorem AS.add (h : AS X0 X F0 D0 F D b v most next th made cs t) (a n : Nat) (ha : a < 18446744073709551616) (h1 : made < 1099511627776) (h2 : t.length < 1099511627776) :
    Calls Try.prog 67 #[.pointer (some ⟨v, 0, none⟩), .int .u64 (a : Int), .int .u64 (n : Int)] X fun e Y => e = .returned (.int .u64 (cellN cs a : Int)) ∧ ∃ F', AS X0 Y F0 D0 F' D b v most next th (made + 1) (stN most cs a (addN (cellN cs a) n)) (t ++ [⟨th, 4, a, n, 0, .slice none 0 0, [], cellN cs a, false⟩]) ∧ ∀ k, D k → Y.heap[k]? = X.heap[k]? := by
  obtain ⟨l, B, L⟩ := h.bank
  have hl : l.length = t.length := by rw [← L]; simp
  refine (v_add v b most next made th a n F cs l X h.view B h.nv h1 (by omega) ha).mono ?_
  rintro e Y ⟨rfl, F', vs, B', V', G⟩
  refine ⟨rfl, F', h.goes B' V' G ?_⟩
  rw [List.map_append, L]
  rfl
theorem AS.alocR (h : AS X0 X F0 D0 F D b v most next th made cs t) (p : Option Addr) (c : Nat) (vals : List Nat) (hr : Reads X p vals) (hap : ∀ ad, p = some ad → vals ≠ [] → ¬ F ad.block ∧ ad.block ≠ v) (hv : ∀ x ∈ vals, x < 18446744073709551616) (hvl : vals.length ≤ 17592186043904) (h1 : made < 1099511627776) (h2 : t.length < 1099511627776) :
    Calls Try.prog 68 #[.pointer (some ⟨v, 0, none⟩), .slice p vals.length c] X fun e Y => e = .returned (.int .u64 (alAt most next vals.length : Int)) ∧ ∃ F', AS X0 Y F0 D0 F' D b v most (alNext most next vals.length) th (made + 1) (alN most next cs vals) (t ++ [⟨th, 5, alAt most next vals.length, 0, 0, .slice none 0 0, vals, 0, false⟩]) ∧ ∀ k, D k → Y.heap[k]? = X.heap[k]? := by
  obtain ⟨l, B, L⟩ := h.bank
  have hl : l.length = t.length := by rw [← L]; simp
  refine (v_alloc v b most next made th p c vals F cs l X h.view B h.nv h1 (by omega) hr (fun ad e n => (hap ad e n).1) (fun ad e n => (hap ad e n).2) hv hvl).mono ?_
  rintro e Y ⟨rfl, F', vs, B', V', G⟩
  refine ⟨rfl, F', h.goes B' V' G ?_⟩
  rw [List.map_append, L]
  rfl
end
/-- A plan's list, all of it below B. -/
def DosAt (X : World) (B : Nat) (lp : Option Addr) (L : List DoP) : Prop := ∀ i d, L[i]? = some d → d.Ok ∧ ∃ bk off vp vc, lp = some ⟨bk, off, none⟩ ∧ bk < B ∧ X.cell? ⟨bk, off + i * 5, none⟩ = some (.int .u8 d.kd) ∧ X.cell? ⟨bk, off + i * 5 + 1, none⟩ = some (.int .u64 (d.ad : Int)) ∧ X.cell? ⟨bk, off + i * 5 + 2, none⟩ = some (.int .u64 (d.a : Int)) ∧ X.cell? ⟨bk, off + i * 5 + 3, none⟩ = some (.int .u64 (d.b : Int)) ∧ X.cell? ⟨bk, off + i * 5 + 4, none⟩ = some (.slice vp d.vals.length vc) ∧ Reads X vp d.vals ∧ ∀ ad, vp = some ad → d.vals ≠ [] → ad.block < B
theorem cell_low {X Y : World} {B : Nat} (h : ∀ k, k < B → Y.heap[k]? = X.heap[k]?) {a : Addr} {u : Value} (ha : a.block < B) (hc : X.cell? a = some u) : Y.cell? a = some u := (World.cell?_of_block (w := X) (h _ ha)).trans hc
theorem reads_low {X Y : World} {B : Nat} (h : ∀ k, k < B → Y.heap[k]? = X.heap[k]?) {p : Option Addr} {vals : List Nat} (hr : Reads X p vals) (hp : ∀ ad, p = some ad → vals ≠ [] → ad.block < B) : Reads Y p vals := by
  by_cases e : vals = []
  · exact .inl e
  · obtain ⟨ad, rfl, hx⟩ := hr.resolve_left e
    refine .inr ⟨ad, rfl, fun j u hj => cell_low h ?_ (hx j u hj)⟩
    have := hp ad rfl e
    show (ad.add j).block < B
    unfold Addr.add
    split <;> exact this
theorem DosAt.low {X Y : World} {B : Nat} {lp : Option Addr} {L : List DoP} (h : DosAt X B lp L) (hl : ∀ k, k < B → Y.heap[k]? = X.heap[k]?) : DosAt Y B lp L := fun i d hd => by
  obtain ⟨ho, bk, off, vp, vc, rfl, hb, c0, c1, c2, c3, c4, hr, hp⟩ := h i d hd
  exact ⟨ho, bk, off, vp, vc, rfl, hb, cell_low hl hb c0, cell_low hl hb c1, cell_low hl hb c2, cell_low hl hb c3, cell_low hl hb c4, reads_low hl hr hp, hp⟩
/-- A plan's proc in memory. -/
structure PlAt (X : World) (D : Nat → Prop) (pb : Nat) (lp : Option Addr) (ln lc at_ : Nat) (got : List Nat) : Prop where
  ex : ∃ gv, X.heap[pb]? = some (.cells #[.slice lp ln lc, .int .i64 (at_ : Int), gv] 49 (0, 0)) ∧ X.ownsRow 0 30 1 gv got.length (got.map u64V) ∧ ∀ k, D k ↔ k = pb ∨ gv.ownBlock = some k
theorem PlAt.kept {X Y : World} {D : Nat → Prop} {pb : Nat} {lp : Option Addr} {ln lc at_ : Nat} {got : List Nat} (h : PlAt X D pb lp ln lc at_ got) (hk : ∀ k, D k → Y.heap[k]? = X.heap[k]?) : PlAt Y D pb lp ln lc at_ got := by
  obtain ⟨gv, h1, h2, h3⟩ := h.ex
  exact ⟨gv, (hk pb ((h3 pb).2 (.inl rfl))).trans h1, row_kept h2 (fun k e => hk k ((h3 k).2 (.inr e))), h3⟩
end Go.Proofs.Ytnhiodmigmmfgaa
