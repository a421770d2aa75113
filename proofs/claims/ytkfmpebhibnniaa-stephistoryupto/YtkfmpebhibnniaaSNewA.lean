/- A new runner: the parts. -/
import Derived.Test.YtkfmpebhibnniaaSPick
namespace Go.Proofs.Ytkfmpebhibnniaa
open Go.RowKit Go.Shelf

theorem infoP : (Try.prog.info? 40).map (fun i => (i.zero, i.size, i.bytes)) = some (some .nilIface, 1, 16) := by kernel_rfl
def thrV (cv : Value) (next : Int) (begun : Bool) : Value := .agg #[cv, .int .i64 next, .bool begun]
theorem infoT : (Try.prog.info? 123).map (fun i => (i.zero, i.size, i.bytes)) = some (some (thrV (.slice none 0 0) 0 false), 3, 40) := by kernel_rfl

/-- Threads of procs, as they are handed in. -/
structure Lists (W : World) (v : Value) (tl : List (Value × List Value)) : Prop where
  outer : W.ownsRow 0 38 1 v tl.length (tl.map Prod.fst)
  inner : ∀ x ∈ tl, W.ownsRow 0 40 1 x.1 x.2.length x.2
  one : ∀ x ∈ tl, ∀ u ∈ x.2, u.oneCell' = true
theorem Lists.chg {W W' : World} {v : Value} {tl : List (Value × List Value)} (h : Lists W v tl) (hc : Chg (fun _ => False) W W') : Lists W' v tl :=
  ⟨row_kept h.outer fun k e => hc.block k (row_lt h.outer k e) (fun h => h), fun x hx => row_kept (h.inner x hx) fun k e => hc.block k (row_lt (h.inner x hx) k e) (fun h => h), h.one⟩
theorem Lists.cell {W : World} {g n c : Nat} {tl : List (Value × List Value)} (h : Lists W (.slice (some ⟨g, 0, none⟩) n c) tl) (i : Nat) (x : Value × List Value) (hx : tl[i]? = some x) : W.cell? ⟨g, i, none⟩ = some x.1 := by
  have hi : i < tl.length := (List.getElem?_eq_some_iff.1 hx).1
  have e : n = tl.length := by
    rcases h.outer.2 with ⟨h2, _⟩ | ⟨_, _, _, h2, _⟩
    · simp at h2
    · simp at h2; exact h2.2.1
  subst e
  rw [World.ownsRow.cellAt h.outer i (by omega)]
  simp [hx]

def tooLongB (tl : List (Value × List Value)) : Bool := decide (64 < tl.length) || tl.any (fun x => decide (4096 < x.2.length))

set_option maxRecDepth 100000 in
set_option maxHeartbeats 1000000 in
theorem s_tooLong (v : Value) (tl : List (Value × List Value)) (W : World) (h : Lists W v tl) (hl : tl.length ≤ 1099511627776) (hi : ∀ x ∈ tl, x.2.length ≤ 1099511627776) :
    Calls Try.prog 49 #[v] W fun e W' => e = .returned (.bool (tooLongB tl)) ∧ W' = W := by
  have H := keepH h
  have HI := keepH hi
  obtain ⟨p, c, hv⟩ := slice_of h.outer
  subst hv
  clear h hi
  by_cases h1 : 64 < tl.length
  · have t1 : (64 : Int) < (tl.length : Int) := by omega
    go_enter Try.func49, Try.ntmps49
    go_wp2_with fail
    go_ret
    exact ⟨by simp [tooLongB, h1], rfl⟩
  · have t1 : ¬ (64 : Int) < (tl.length : Int) := by omega
    go_enter Try.func49, Try.ntmps49
    go_wp2_with fail
    go_loopw [10] (fun s wr => ∃ k : Nat, k ≤ tl.length ∧ s = .int .i64 (k : Int) ∧ wr = W ∧ Hid (∀ j x, j < k → tl[j]? = some x → ¬ 4096 < x.2.length)) (fun s _ => tl.length - (intOf s).toNat)
    case atStart => exact ⟨0, by omega, rfl, rfl, fun j x hj => absurd hj (Nat.not_lt_zero _)⟩
    case round =>
      obtain ⟨k, hk, rfl, rfl, HK⟩ := hrel
      by_cases hlt : k < tl.length
      · have t2 : (k : Int) < (tl.length : Int) := by omega
        obtain ⟨x, hx⟩ : ∃ x, tl[k]? = some x := ⟨tl[k], List.getElem?_eq_getElem hlt⟩
        obtain ⟨g, c', hg⟩ := slice_pos H.out.outer (by omega)
        simp only [Value.slice.injEq, true_and] at hg
        obtain ⟨rfl, rfl⟩ := hg
        have hc := H.out.cell k x hx
        obtain ⟨px, cx, hxs⟩ := slice_of (H.out.inner x (List.mem_of_getElem? hx))
        rw [hxs] at hc
        by_cases h2 : 4096 < x.2.length
        · have t3 : (4096 : Int) < (x.2.length : Int) := by omega
          go_wp2_with fail
          go_ret
          refine ⟨?_, rfl⟩
          have e : tl.any (fun x => decide (4096 < x.2.length)) = true := List.any_eq_true.2 ⟨x, List.mem_of_getElem? hx, by simpa using h2⟩
          simp [tooLongB, e]
        · have t3 : ¬ (4096 : Int) < (x.2.length : Int) := by omega
          go_wp2_with fail
          go_roundw
          case rel => exact ⟨k + 1, by omega, by go_num, by first | trivial | rfl, fun j y hj hy => by
              by_cases e : j = k
              · subst e
                rw [hx] at hy
                simp at hy
                subst hy
                exact h2
              · exact HK.out j y (by omega) hy⟩
          case measure => simp [intOf]; omega
      · obtain rfl : k = tl.length := by omega
        go_wp2_with fail
        go_ret
        refine ⟨?_, rfl⟩
        have e : tl.any (fun x => decide (4096 < x.2.length)) = false := by
          rw [List.any_eq_false]
          intro x hx
          obtain ⟨j, hj⟩ := List.getElem?_of_mem hx
          have := HK.out j x (List.getElem?_eq_some_iff.1 hj).1 hj
          simpa using this
        simp [tooLongB, e, h1]

set_option maxRecDepth 100000 in
theorem clone_p (v : Value) (n : Nat) (xs : List Value) (W : World) (h : W.ownsRow 0 40 1 v n xs) (hn : n ≤ 1099511627776) (h1 : ∀ u ∈ xs, u.oneCell' = true) :
    Calls Try.prog 36 #[v] W fun e W' => ∃ v', e = .returned v' ∧ W'.ownsRow 0 40 1 v' n xs ∧ Chg (fun _ => False) W W' ∧ ∀ k, v'.ownBlock = some k → W.heap.size ≤ k := by
  obtain ⟨i0, hi, hz0, hz1, hz2⟩ := info_parts infoP
  have q1 : ∀ (w : World) (a : Option Addr) (n c n' c' : Nat), (binOp .eql 38 (.slice a n c) (.slice none n' c')).run Try.prog w = .ok (.bool a.isNone) w := fun w a n c n' c' => Lib.run_eql_slice_nil w _ _ a n c n' c' Try.underlying38
  rcases h.2 with ⟨rfl, rfl⟩ | ⟨g, cap, cur, rfl, _⟩
  · have hx : xs = [] := List.eq_nil_of_length_eq_zero (by simpa using h.1)
    subst hx
    clear h h1
    go_enter Try.func36, Try.ntmps36
    go_wp2_with fail
    go_ret
    exact ⟨.slice none 0 0, by simp, World.ownsRow_nil _ _ _ _, Chg.refl _ _, fun k e => by simp [Value.ownBlock] at e⟩
  · have H := keepH h
    have H1 := keepH h1
    have hxl := h.1
    clear h h1
    go_enter Try.func36, Try.ntmps36
    go_wp2_with (at_builtin; refine wpList_append_own_at _ rfl _ _ 38 rfl 0 40 i0 .nilIface 1 16 Try.underlying38 hi hz0 hz1 hz2 rfl (by decide) (.slice (some ⟨W.heap.size, 0, none⟩) 0 0) 0 [] rfl ⟨rfl, .inr ⟨W.heap.size, 0, #[], rfl, Nat.zero_le _, heap_alloc_new _ _, Nat.le_refl _, by unfold maxLen; omega, rfl, rfl⟩⟩ ⟨g, 0, none⟩ n cap xs rfl hxl (fun j u hj => ((H.out.alloc _).cells (g := g) rfl j u hj)) H1.out (by unfold maxLen; omega) (by omega) (Nat.zero_le _) ?_; intro v' w1 r1 r2 r3 r4; have R1 := keepH r1; have R4 := keepH r4; clear r1 r3 r4)
    go_ret
    refine ⟨v', by simp, ?_, ((Chg.refl _ W).alloc _).grown r2 (fun k e hk => by simp [Value.ownBlock] at e; omega), fun k e => ?_⟩
    · have e := R1.out
      simpa using e
    · rcases R4.out with e2 | e2
      · rw [e2] at e
        simp [Value.ownBlock] at e
        omega
      · rw [e2] at e
        simp at e
        omega

def vwOf (vbs : List Nat) : List Value := vbs.map (fun b => Value.pointer (some ⟨b, 0, none⟩)) ++ List.replicate (64 - vbs.length) (.pointer none)
theorem vwOf_length (vbs : List Nat) (h : vbs.length ≤ 64) : (vwOf vbs).length = 64 := by simp [vwOf]; omega
theorem vwOf_get (vbs : List Nat) (i : Nat) (b : Nat) (h : vbs[i]? = some b) : (vwOf vbs)[i]? = some (.pointer (some ⟨b, 0, none⟩)) := by
  have hi : i < vbs.length := (List.getElem?_eq_some_iff.1 h).1
  rw [vwOf, List.getElem?_append_left (by simpa using hi)]
  simp [h]
theorem vwOf_set (vbs : List Nat) (b : Nat) (h : vbs.length < 64) : (vwOf vbs).set vbs.length (.pointer (some ⟨b, 0, none⟩)) = vwOf (vbs ++ [b]) := by
  obtain ⟨m, hm⟩ : ∃ m, 64 - vbs.length = m + 1 := ⟨63 - vbs.length, by omega⟩
  have hm2 : 64 - (vbs ++ [b]).length = m := by simp; omega
  rw [vwOf, vwOf, hm, hm2, List.set_append_right _ _ (by simp)]
  simp [List.replicate_succ]

section
variable {W Y : World} {G : Nat → Prop} {r m : Nat} {vw : List Value} {tv ev av : Value} {ths : List Thr} {steps : Nat} {evs : List Ev} {ats : List Int}
theorem RunAt.setView (h : RunAt W G r m vw tv ev av ths steps evs ats) (i : Nat) (hi : i < 64) (v : Value) : RunAt (W.setCell ⟨r, 1 + i, none⟩ v) G r m (vw.set i v) tv ev av ths steps evs ats := by
  have ob : ∀ k, k ≠ r → (W.setCell ⟨r, 1 + i, none⟩ v).heap[k]? = W.heap[k]? := fun k hk => Below.heap_setCell _ _ _ _ hk
  refine ⟨?_, by simpa using h.vlen, row_kept h.tr fun k e => ob k (fun e2 => block_apart h.tr h.blk (by decide) (by rw [e, e2])), fun x hx => row_kept (h.calls x hx) fun k e => ob k (fun e2 => block_apart (h.calls x hx) h.blk (by decide) (by rw [e, e2])), row_kept h.er fun k e => ob k (fun e2 => block_apart h.er h.blk (by decide) (by rw [e, e2])), row_kept h.ar fun k e => ob k (fun e2 => block_apart h.ar h.blk (by decide) (by rw [e, e2])), h.inr, h.int, h.inc, h.ine, h.ina, fun k e => by simpa [World.setCell] using h.lt k e, h.thl, h.nxt⟩
  have e := set_of h.blk (1 + i) v
  rw [e]
  congr 2
  apply Array.ext'
  simp only [Array.toList_setIfInBounds]
  exact runL_setv m vw tv steps ev av h.vlen i hi v
/-- One thread more. -/
theorem RunAt.moreThr (h : RunAt W G r m vw tv ev av ths steps evs ats) {tv' : Value} {x : Thr} (hy : ∀ k, G k → tv.ownBlock ≠ some k → Y.heap[k]? = W.heap[k]?) (hs : W.heap.size ≤ Y.heap.size) (hrow : Y.ownsRow 0 123 3 tv' (ths ++ [x]).length (thrRow (ths ++ [x])))
    (hc : Y.ownsRow 0 40 1 x.cv x.calls.length x.calls) (hl : ths.length < 64) (hn : x.next ≤ x.calls.length ∧ x.calls.length ≤ 4096) :
    RunAt (Y.setCell ⟨r, 65, none⟩ tv') (fun k => (G k ∨ tv'.ownBlock = some k) ∨ x.cv.ownBlock = some k) r m vw tv' ev av (ths ++ [x]) steps evs ats := by
  have hr : Y.heap[r]? = some (.cells (runL m vw tv steps ev av).toArray 117 (0, 0)) := (hy r h.inr (block_apart h.tr h.blk (by decide))).trans h.blk
  have ob : ∀ k, k ≠ r → (Y.setCell ⟨r, 65, none⟩ tv').heap[k]? = Y.heap[k]? := fun k hk => Below.heap_setCell _ _ _ _ hk
  refine ⟨?_, h.vlen, row_kept hrow fun k e => ob k (fun e2 => block_apart hrow hr (by decide) (by rw [e, e2])), fun y hy' => ?_,
    row_kept h.er fun k e => (ob k (fun e2 => block_apart h.er h.blk (by decide) (by rw [e, e2]))).trans (hy k (h.ine k e) (fun e2 => rows_apart h.tr h.er (by decide) k e2 e)),
    row_kept h.ar fun k e => (ob k (fun e2 => block_apart h.ar h.blk (by decide) (by rw [e, e2]))).trans (hy k (h.ina k e) (fun e2 => rows_apart h.tr h.ar (by decide) k e2 e)),
    .inl (.inl h.inr), fun k e => .inl (.inr e), fun y hy' k e => ?_, fun k e => .inl (.inl (h.ine k e)), fun k e => .inl (.inl (h.ina k e)), ?_, by simp; omega, fun y hy' => ?_⟩
  · have e := set_of hr 65 tv'
    rw [e]
    congr 2
    apply Array.ext'
    simp only [Array.toList_setIfInBounds]
    exact runL_set m vw tv steps ev av h.vlen 0 _
  · rcases List.mem_append.1 hy' with hy' | hy'
    · exact row_kept (h.calls y hy') fun k e => (ob k (fun e2 => block_apart (h.calls y hy') h.blk (by decide) (by rw [e, e2]))).trans (hy k (h.inc y hy' k e) (fun e2 => rows_apart h.tr (h.calls y hy') (by decide) k e2 e))
    · obtain rfl := List.mem_singleton.1 hy'
      exact row_kept hc fun k e => ob k (fun e2 => block_apart hc hr (by decide) (by rw [e, e2]))
  · rcases List.mem_append.1 hy' with hy' | hy'
    · exact .inl (.inl (h.inc y hy' k e))
    · obtain rfl := List.mem_singleton.1 hy'
      exact .inr e
  · intro k e
    have s : (Y.setCell ⟨r, 65, none⟩ tv').heap.size = Y.heap.size := by simp [World.setCell]
    rw [s]
    rcases e with (e | e) | e
    · exact Nat.lt_of_lt_of_le (h.lt k e) hs
    · exact row_lt hrow k e
    · exact row_lt hc k e
  · rcases List.mem_append.1 hy' with hy' | hy'
    · exact h.nxt y hy'
    · obtain rfl := List.mem_singleton.1 hy'
      exact hn
end
end Go.Proofs.Ytkfmpebhibnniaa
