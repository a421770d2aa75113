/- What comes in: a Result. (mkRwi.py) -/
import Derived.Test.YtjodechhnobkhaaGreatDoorRps
import Derived.Test.YtjodechhnobkhaaGreatDoorRwf
namespace Go.Proofs.YtjodechhnobkhaaGreatDoor
open Go.RowKit Go.Joins Go.ChangeShapes Go.WideShapes Go.Deep
set_option linter.unusedVariables false

def One (cs : List Value) (n : Nat) : Prop := cs.length = n ∧ ∀ v ∈ cs, v.oneCell' = true
theorem one_cut {cs : List Value} {o s m : Nat} (h1 : One ((cs.drop o).take s) s) (h2 : One (cs.drop (o + s)) m) : One (cs.drop o) (s + m) := by
  have e : cs.drop o = (cs.drop o).take s ++ cs.drop (o + s) := cut_next rfl
  rw [e]
  exact ⟨by rw [List.length_append, h1.1, h2.1], fun v hv => by rcases List.mem_append.1 hv with h | h; exact h1.2 v h; exact h2.2 v h⟩
theorem one_nil {cs : List Value} {n : Nat} (h : cs.length = n) : One (cs.drop n) 0 := by
  rw [List.drop_eq_nil_of_le (by omega)]
  exact ⟨rfl, fun v hv => by simp at hv⟩
theorem cw_tref : Tryz.prog.cellsOf 98 = 3 := by kernel_rfl
theorem cw_top : Tryz.prog.cellsOf 100 = 11 := by kernel_rfl
theorem cw_tanswer : Tryz.prog.cellsOf 103 = 7 := by kernel_rfl
theorem cw_tspan : Tryz.prog.cellsOf 95 = 4 := by kernel_rfl
theorem cw_tdid : Tryz.prog.cellsOf 105 = 22 := by kernel_rfl
theorem cw_tresult : Tryz.prog.cellsOf 37 = 3 := by kernel_rfl
theorem cw_tint : Tryz.prog.cellsOf 3 = 1 := by kernel_rfl
theorem cw_terrno : Tryz.prog.cellsOf 24 = 1 := by kernel_rfl
theorem cw_tu64 : Tryz.prog.cellsOf 42 = 1 := by kernel_rfl
theorem cw_topkind : Tryz.prog.cellsOf 96 = 1 := by kernel_rfl
theorem cw_tbool : Tryz.prog.cellsOf 4 = 1 := by kernel_rfl
theorem cw_tu64s : Tryz.prog.cellsOf 27 = 1 := by kernel_rfl
theorem cw_tpairs : Tryz.prog.cellsOf 101 = 1 := by kernel_rfl
theorem cw_tdids : Tryz.prog.cellsOf 34 = 1 := by kernel_rfl
theorem cw_taccs : Tryz.prog.cellsOf 22 = 1 := by kernel_rfl
theorem cw_tints : Tryz.prog.cellsOf 35 = 1 := by kernel_rfl
theorem one_tint {H : Type} {enc : TypeId × Value → H} {W : World} {sp : Nat → Bool} {held : Bool} {fuel : Nat} {cs : List Value} {x : DataW H × List MemPlace} (h : DataW.trod enc Tryz.prog W 0 sp held fuel 3 cs = some x) : One cs 1 := by
  obtain ⟨z, e, _, _⟩ := DataW.trod_int Tryz.underlying3 h
  rw [e]
  exact ⟨rfl, fun v hv => by simp at hv; rw [hv]; rfl⟩
theorem one_terrno {H : Type} {enc : TypeId × Value → H} {W : World} {sp : Nat → Bool} {held : Bool} {fuel : Nat} {cs : List Value} {x : DataW H × List MemPlace} (h : DataW.trod enc Tryz.prog W 0 sp held fuel 24 cs = some x) : One cs 1 := by
  obtain ⟨z, e, _, _⟩ := DataW.trod_int Tryz.underlying24 h
  rw [e]
  exact ⟨rfl, fun v hv => by simp at hv; rw [hv]; rfl⟩
theorem one_tu64 {H : Type} {enc : TypeId × Value → H} {W : World} {sp : Nat → Bool} {held : Bool} {fuel : Nat} {cs : List Value} {x : DataW H × List MemPlace} (h : DataW.trod enc Tryz.prog W 0 sp held fuel 42 cs = some x) : One cs 1 := by
  obtain ⟨z, e, _, _⟩ := DataW.trod_int Tryz.underlying42 h
  rw [e]
  exact ⟨rfl, fun v hv => by simp at hv; rw [hv]; rfl⟩
theorem one_topkind {H : Type} {enc : TypeId × Value → H} {W : World} {sp : Nat → Bool} {held : Bool} {fuel : Nat} {cs : List Value} {x : DataW H × List MemPlace} (h : DataW.trod enc Tryz.prog W 0 sp held fuel 96 cs = some x) : One cs 1 := by
  obtain ⟨z, e, _, _⟩ := DataW.trod_int Tryz.underlying96 h
  rw [e]
  exact ⟨rfl, fun v hv => by simp at hv; rw [hv]; rfl⟩
theorem one_tbool {H : Type} {enc : TypeId × Value → H} {W : World} {sp : Nat → Bool} {held : Bool} {fuel : Nat} {cs : List Value} {x : DataW H × List MemPlace} (h : DataW.trod enc Tryz.prog W 0 sp held fuel 4 cs = some x) : One cs 1 := by
  obtain ⟨z, e, _⟩ := DataW.trod_bool Tryz.underlying4 h
  rw [e]
  exact ⟨rfl, fun v hv => by simp at hv; rw [hv]; rfl⟩
theorem one_tu64s {H : Type} {enc : TypeId × Value → H} {W : World} {sp : Nat → Bool} {held : Bool} {fuel : Nat} {cs : List Value} {x : DataW H × List MemPlace} (h : DataW.trod enc Tryz.prog W 0 sp held fuel 27 cs = some x) : One cs 1 := by
  rcases open_slice Tryz.underlying27 h with ⟨e, _⟩ | ⟨a, len, cap, m, k, D, Pl, e, _⟩
  · rw [e]
    exact ⟨rfl, fun v hv => by simp at hv; rw [hv]; rfl⟩
  · rw [e]
    exact ⟨rfl, fun v hv => by simp at hv; rw [hv]; rfl⟩
theorem one_tpairs {H : Type} {enc : TypeId × Value → H} {W : World} {sp : Nat → Bool} {held : Bool} {fuel : Nat} {cs : List Value} {x : DataW H × List MemPlace} (h : DataW.trod enc Tryz.prog W 0 sp held fuel 101 cs = some x) : One cs 1 := by
  rcases open_slice Tryz.underlying101 h with ⟨e, _⟩ | ⟨a, len, cap, m, k, D, Pl, e, _⟩
  · rw [e]
    exact ⟨rfl, fun v hv => by simp at hv; rw [hv]; rfl⟩
  · rw [e]
    exact ⟨rfl, fun v hv => by simp at hv; rw [hv]; rfl⟩
theorem one_tref {H : Type} {enc : TypeId × Value → H} {W : World} {sp : Nat → Bool} {held : Bool} {fuel : Nat} {cs : List Value} {x : DataW H × List MemPlace} (h : DataW.trod enc Tryz.prog W 0 sp held fuel 98 cs = some x) : One cs 3 := by
  obtain ⟨xs, n, hn, hx, hl, hlen, hh⟩ := DataW.trod_struct Tryz.underlying98 h
  rw [cw_tref] at hl
  have q3 := one_nil hl
  have h2 : One ((cs.drop 2).take (Tryz.prog.cellsOf 3)) 1 := one_tint ((hh 2 _ rfl).trans (List.getElem?_eq_getElem (show 2 < xs.length by rw [hlen]; decide)))
  rw [cw_tint] at h2
  have q2 : One (cs.drop 2) 1 := one_cut (s := 1) (m := 0) h2 q3
  have h1 : One ((cs.drop 1).take (Tryz.prog.cellsOf 3)) 1 := one_tint ((hh 1 _ rfl).trans (List.getElem?_eq_getElem (show 1 < xs.length by rw [hlen]; decide)))
  rw [cw_tint] at h1
  have q1 : One (cs.drop 1) 2 := one_cut (s := 1) (m := 1) h1 q2
  have h0 : One ((cs.drop 0).take (Tryz.prog.cellsOf 4)) 1 := one_tbool ((hh 0 _ rfl).trans (List.getElem?_eq_getElem (show 0 < xs.length by rw [hlen]; decide)))
  rw [cw_tbool] at h0
  have q0 : One (cs.drop 0) 3 := one_cut (s := 1) (m := 2) h0 q1
  rw [List.drop_zero] at q0
  exact q0
theorem one_top {H : Type} {enc : TypeId × Value → H} {W : World} {sp : Nat → Bool} {held : Bool} {fuel : Nat} {cs : List Value} {x : DataW H × List MemPlace} (h : DataW.trod enc Tryz.prog W 0 sp held fuel 100 cs = some x) : One cs 11 := by
  obtain ⟨xs, n, hn, hx, hl, hlen, hh⟩ := DataW.trod_struct Tryz.underlying100 h
  rw [cw_top] at hl
  have q9 := one_nil hl
  have h8 : One ((cs.drop 10).take (Tryz.prog.cellsOf 42)) 1 := one_tu64 ((hh 8 _ rfl).trans (List.getElem?_eq_getElem (show 8 < xs.length by rw [hlen]; decide)))
  rw [cw_tu64] at h8
  have q8 : One (cs.drop 10) 1 := one_cut (s := 1) (m := 0) h8 q9
  have h7 : One ((cs.drop 9).take (Tryz.prog.cellsOf 42)) 1 := one_tu64 ((hh 7 _ rfl).trans (List.getElem?_eq_getElem (show 7 < xs.length by rw [hlen]; decide)))
  rw [cw_tu64] at h7
  have q7 : One (cs.drop 9) 2 := one_cut (s := 1) (m := 1) h7 q8
  have h6 : One ((cs.drop 8).take (Tryz.prog.cellsOf 27)) 1 := one_tu64s ((hh 6 _ rfl).trans (List.getElem?_eq_getElem (show 6 < xs.length by rw [hlen]; decide)))
  rw [cw_tu64s] at h6
  have q6 : One (cs.drop 8) 3 := one_cut (s := 1) (m := 2) h6 q7
  have h5 : One ((cs.drop 5).take (Tryz.prog.cellsOf 98)) 3 := one_tref ((hh 5 _ rfl).trans (List.getElem?_eq_getElem (show 5 < xs.length by rw [hlen]; decide)))
  rw [cw_tref] at h5
  have q5 : One (cs.drop 5) 6 := one_cut (s := 3) (m := 3) h5 q6
  have h4 : One ((cs.drop 4).take (Tryz.prog.cellsOf 42)) 1 := one_tu64 ((hh 4 _ rfl).trans (List.getElem?_eq_getElem (show 4 < xs.length by rw [hlen]; decide)))
  rw [cw_tu64] at h4
  have q4 : One (cs.drop 4) 7 := one_cut (s := 1) (m := 6) h4 q5
  have h3 : One ((cs.drop 3).take (Tryz.prog.cellsOf 42)) 1 := one_tu64 ((hh 3 _ rfl).trans (List.getElem?_eq_getElem (show 3 < xs.length by rw [hlen]; decide)))
  rw [cw_tu64] at h3
  have q3 : One (cs.drop 3) 8 := one_cut (s := 1) (m := 7) h3 q4
  have h2 : One ((cs.drop 2).take (Tryz.prog.cellsOf 42)) 1 := one_tu64 ((hh 2 _ rfl).trans (List.getElem?_eq_getElem (show 2 < xs.length by rw [hlen]; decide)))
  rw [cw_tu64] at h2
  have q2 : One (cs.drop 2) 9 := one_cut (s := 1) (m := 8) h2 q3
  have h1 : One ((cs.drop 1).take (Tryz.prog.cellsOf 42)) 1 := one_tu64 ((hh 1 _ rfl).trans (List.getElem?_eq_getElem (show 1 < xs.length by rw [hlen]; decide)))
  rw [cw_tu64] at h1
  have q1 : One (cs.drop 1) 10 := one_cut (s := 1) (m := 9) h1 q2
  have h0 : One ((cs.drop 0).take (Tryz.prog.cellsOf 96)) 1 := one_topkind ((hh 0 _ rfl).trans (List.getElem?_eq_getElem (show 0 < xs.length by rw [hlen]; decide)))
  rw [cw_topkind] at h0
  have q0 : One (cs.drop 0) 11 := one_cut (s := 1) (m := 10) h0 q1
  rw [List.drop_zero] at q0
  exact q0
theorem one_tanswer {H : Type} {enc : TypeId × Value → H} {W : World} {sp : Nat → Bool} {held : Bool} {fuel : Nat} {cs : List Value} {x : DataW H × List MemPlace} (h : DataW.trod enc Tryz.prog W 0 sp held fuel 103 cs = some x) : One cs 7 := by
  obtain ⟨xs, n, hn, hx, hl, hlen, hh⟩ := DataW.trod_struct Tryz.underlying103 h
  rw [cw_tanswer] at hl
  have q7 := one_nil hl
  have h6 : One ((cs.drop 6).take (Tryz.prog.cellsOf 42)) 1 := one_tu64 ((hh 6 _ rfl).trans (List.getElem?_eq_getElem (show 6 < xs.length by rw [hlen]; decide)))
  rw [cw_tu64] at h6
  have q6 : One (cs.drop 6) 1 := one_cut (s := 1) (m := 0) h6 q7
  have h5 : One ((cs.drop 5).take (Tryz.prog.cellsOf 101)) 1 := one_tpairs ((hh 5 _ rfl).trans (List.getElem?_eq_getElem (show 5 < xs.length by rw [hlen]; decide)))
  rw [cw_tpairs] at h5
  have q5 : One (cs.drop 5) 2 := one_cut (s := 1) (m := 1) h5 q6
  have h4 : One ((cs.drop 4).take (Tryz.prog.cellsOf 42)) 1 := one_tu64 ((hh 4 _ rfl).trans (List.getElem?_eq_getElem (show 4 < xs.length by rw [hlen]; decide)))
  rw [cw_tu64] at h4
  have q4 : One (cs.drop 4) 3 := one_cut (s := 1) (m := 2) h4 q5
  have h3 : One ((cs.drop 3).take (Tryz.prog.cellsOf 4)) 1 := one_tbool ((hh 3 _ rfl).trans (List.getElem?_eq_getElem (show 3 < xs.length by rw [hlen]; decide)))
  rw [cw_tbool] at h3
  have q3 : One (cs.drop 3) 4 := one_cut (s := 1) (m := 3) h3 q4
  have h2 : One ((cs.drop 2).take (Tryz.prog.cellsOf 42)) 1 := one_tu64 ((hh 2 _ rfl).trans (List.getElem?_eq_getElem (show 2 < xs.length by rw [hlen]; decide)))
  rw [cw_tu64] at h2
  have q2 : One (cs.drop 2) 5 := one_cut (s := 1) (m := 4) h2 q3
  have h1 : One ((cs.drop 1).take (Tryz.prog.cellsOf 4)) 1 := one_tbool ((hh 1 _ rfl).trans (List.getElem?_eq_getElem (show 1 < xs.length by rw [hlen]; decide)))
  rw [cw_tbool] at h1
  have q1 : One (cs.drop 1) 6 := one_cut (s := 1) (m := 5) h1 q2
  have h0 : One ((cs.drop 0).take (Tryz.prog.cellsOf 24)) 1 := one_terrno ((hh 0 _ rfl).trans (List.getElem?_eq_getElem (show 0 < xs.length by rw [hlen]; decide)))
  rw [cw_terrno] at h0
  have q0 : One (cs.drop 0) 7 := one_cut (s := 1) (m := 6) h0 q1
  rw [List.drop_zero] at q0
  exact q0
theorem span_open {H : Type} {enc : TypeId × Value → H} {W : World} {sp : Nat → Bool} {held : Bool} {fuel : Nat} {cs : List Value} {x : DataW H × List MemPlace} (h : DataW.trod enc Tryz.prog W 0 sp held fuel 95 cs = some x) : ∃ th idx fr til : Int, cs = [.int .i64 th, .int .i64 idx, .int .i64 fr, .int .i64 til] ∧ isI th ∧ isI fr ∧ isI til := by
  obtain ⟨xs, n, hn, hx, hl, hlen, hh⟩ := DataW.trod_struct Tryz.underlying95 h
  rw [cw_tspan] at hl
  have h0 := (hh 0 _ rfl).trans (List.getElem?_eq_getElem (show 0 < xs.length by rw [hlen]; decide))
  obtain ⟨th, e0, _, w0⟩ := DataW.trod_int Tryz.underlying3 h0
  have r0 : (cs.drop 0).take (Tryz.prog.cellsOf 3) = _ := e0
  rw [co_i] at r0
  have s0 : cs.drop 0 = _ ++ cs.drop 1 := cut_next r0
  have h1 := (hh 1 _ rfl).trans (List.getElem?_eq_getElem (show 1 < xs.length by rw [hlen]; decide))
  obtain ⟨idx, e1, _, w1⟩ := DataW.trod_int Tryz.underlying3 h1
  have r1 : (cs.drop 1).take (Tryz.prog.cellsOf 3) = _ := e1
  rw [co_i] at r1
  have s1 : cs.drop 1 = _ ++ cs.drop 2 := cut_next r1
  have h2 := (hh 2 _ rfl).trans (List.getElem?_eq_getElem (show 2 < xs.length by rw [hlen]; decide))
  obtain ⟨fr, e2, _, w2⟩ := DataW.trod_int Tryz.underlying3 h2
  have r2 : (cs.drop 2).take (Tryz.prog.cellsOf 3) = _ := e2
  rw [co_i] at r2
  have s2 : cs.drop 2 = _ ++ cs.drop 3 := cut_next r2
  have h3 := (hh 3 _ rfl).trans (List.getElem?_eq_getElem (show 3 < xs.length by rw [hlen]; decide))
  obtain ⟨til, e3, _, w3⟩ := DataW.trod_int Tryz.underlying3 h3
  have r3 : (cs.drop 3).take (Tryz.prog.cellsOf 3) = _ := e3
  rw [co_i] at r3
  have s3 : cs.drop 3 = _ ++ cs.drop 4 := cut_next r3
  have z : cs.drop 4 = [] := List.drop_eq_nil_of_le (by omega)
  rw [z] at s3
  rw [s3] at s2
  rw [s2] at s1
  rw [s1] at s0
  have b0 := bounds_i64 w0
  have b2 := bounds_i64 w2
  have b3 := bounds_i64 w3
  exact ⟨th, idx, fr, til, (List.drop_zero (l := cs)).symm.trans s0, by unfold isI; omega, by unfold isI; omega, by unfold isI; omega⟩
theorem did_open {H : Type} {enc : TypeId × Value → H} {W : World} {sp : Nat → Bool} {held : Bool} {fuel : Nat} {cs : List Value} {x : DataW H × List MemPlace} (h : DataW.trod enc Tryz.prog W 0 sp held fuel 105 cs = some x) : ∃ d : Dx, cs = (didC d).toList ∧ d.Ok := by
  obtain ⟨xs, n, hn, hx, hl, hlen, hh⟩ := DataW.trod_struct Tryz.underlying105 h
  rw [cw_tdid] at hl
  obtain ⟨th, idx, fr, til, e0, i0, i2, i3⟩ := span_open ((hh 0 _ rfl).trans (List.getElem?_eq_getElem (show 0 < xs.length by rw [hlen]; decide)))
  have h1 : One ((cs.drop 4).take (Tryz.prog.cellsOf 100)) 11 := one_top ((hh 1 _ rfl).trans (List.getElem?_eq_getElem (show 1 < xs.length by rw [hlen]; decide)))
  rw [cw_top] at h1
  have h2 : One ((cs.drop 15).take (Tryz.prog.cellsOf 103)) 7 := one_tanswer ((hh 2 _ rfl).trans (List.getElem?_eq_getElem (show 2 < xs.length by rw [hlen]; decide)))
  rw [cw_tanswer] at h2
  have q3 := one_nil hl
  have q2 : One (cs.drop 15) 7 := one_cut (s := 7) (m := 0) h2 q3
  have q1 : One (cs.drop 4) 18 := one_cut (s := 11) (m := 7) h1 q2
  have r0 : (cs.drop 0).take (Tryz.prog.cellsOf 95) = _ := e0
  rw [cw_tspan] at r0
  have s0 : cs.drop 0 = _ ++ cs.drop 4 := cut_next r0
  refine ⟨⟨th, idx, fr, til, cs.drop 4⟩, (List.drop_zero (l := cs)).symm.trans s0, i0, i2, i3, q1.1, ?_⟩
  simpa using q1.2
theorem len_sum : ∀ (b : List Nat), (∀ i, i < b.length → 1 ≤ b.getD i 0) → b.length ≤ b.sum := by
  intro b
  induction b with
  | nil => intro _; simp
  | cons z r ih =>
    intro hb
    have h0 := hb 0 (by simp)
    have h1 := ih (fun i hi => by have := hb (i + 1) (by simp; omega); simpa using this)
    simp only [List.length_cons, List.sum_cons]
    simp at h0
    omega
theorem dids_open {H : Type} {enc : TypeId × Value → H} {W : World} {sp : Nat → Bool} {held : Bool} {fuel : Nat} {cs : List Value} {x : DataW H × List MemPlace} (h : DataW.trod enc Tryz.prog W 0 sp held fuel 34 cs = some x) :
    ∃ (p : Option Addr) (c : Nat) (l : List Dx), cs = [.slice p l.length c] ∧ DRd W p l ∧ (∀ d ∈ l, d.Ok) ∧ l.length + 1 ≤ Rows.uptoBulk x.1 := by
  obtain ⟨p, n, c, hcs, bu, hbl, hbs, hr⟩ := slice_rowsS (s := 22) (Q := fun w cs => 1 ≤ w ∧ ∃ d : Dx, cs = (didC d).toList ∧ d.Ok) Tryz.underlying34 cw_tdid (by decide) (fun fuel cs y hy => by
    have h1 := did_open hy
    refine ⟨⟨bulk_one _, h1⟩, ?_⟩
    obtain ⟨d, e, ok⟩ := h1
    rw [e]
    have := did_size ok
    simpa using this) h
  rcases hr with rfl | ⟨bk, off, rfl, hbk, hr⟩
  · exact ⟨p, c, [], hcs, .inl rfl, fun u hu => by simp at hu, by simpa using bulk_one x.1⟩
  · obtain ⟨l, hl, hp⟩ := choose_list (P := fun i (d : Dx) => d.Ok ∧ 1 ≤ bu.getD i 0 ∧ ∀ (j : Nat) u, (didC d)[j]? = some u → W.cell? ⟨bk, off + i * 22 + j, none⟩ = some u) n (fun i hi => by
      obtain ⟨cs', ⟨w, hw, h1, d, rfl, ok⟩, hc⟩ := hr i hi
      refine ⟨d, ok, by simp only [List.getD, hw]; exact h1, fun j u hj => ?_⟩
      have := hc j u (by simpa using hj)
      rw [Nat.add_assoc]
      exact this)
    subst hl
    refine ⟨_, c, l, hcs, .inr ⟨bk, off, rfl, hbk, fun i d hd => (hp i d hd).2.2⟩, fun d hd => ?_, ?_⟩
    · obtain ⟨i, hi, rfl⟩ := List.getElem_of_mem hd
      exact (hp i _ (List.getElem?_eq_getElem hi)).1
    · have := len_sum bu (fun i hi => by
        rw [hbl] at hi
        exact (hp i l[i] (List.getElem?_eq_getElem hi)).2.1)
      omega
theorem ints_open {H : Type} {enc : TypeId × Value → H} {W : World} {sp : Nat → Bool} {held : Bool} {fuel : Nat} {cs : List Value} {x : DataW H × List MemPlace} (h : DataW.trod enc Tryz.prog W 0 sp held fuel 35 cs = some x) :
    ∃ (p : Option Addr) (c : Nat) (l : List Int), cs = [.slice p l.length c] ∧ IRd W p l ∧ (∀ z ∈ l, isI z) ∧ l.length + 1 ≤ Rows.uptoBulk x.1 := by
  obtain ⟨p, n, c, hcs, bu, hbl, hbs, hr⟩ := slice_rowsS (s := 1) (Q := fun w cs => 1 ≤ w ∧ ∃ z : Int, isI z ∧ cs = [.int .i64 z]) Tryz.underlying35 co_i (by decide) (fun fuel cs y hy => by
    obtain ⟨z, e, _, w⟩ := DataW.trod_int Tryz.underlying3 hy
    have b := bounds_i64 w
    exact ⟨⟨bulk_one _, z, by unfold isI; omega, e⟩, by rw [e]; rfl⟩) h
  rcases hr with rfl | ⟨bk, off, rfl, hbk, hr⟩
  · exact ⟨p, c, [], hcs, .inl rfl, fun u hu => by simp at hu, by simpa using bulk_one x.1⟩
  · obtain ⟨l, hl, hp⟩ := choose_list (P := fun i (z : Int) => 1 ≤ bu.getD i 0 ∧ isI z ∧ W.cell? ⟨bk, off + i, none⟩ = some (.int .i64 z)) n (fun i hi => by
      obtain ⟨cs', ⟨w, hw, h1, z, hz, rfl⟩, hc⟩ := hr i hi
      refine ⟨z, by simp only [List.getD, hw]; exact h1, hz, ?_⟩
      have := hc 0 _ rfl
      simpa using this)
    subst hl
    refine ⟨_, c, l, hcs, .inr ⟨bk, off, rfl, hbk, fun i z hz => (hp i z hz).2.2⟩, fun z hz => ?_, ?_⟩
    · obtain ⟨i, hi, rfl⟩ := List.getElem_of_mem hz
      exact (hp i _ (List.getElem?_eq_getElem hi)).2.1
    · have := len_sum bu (fun i hi => by
        rw [hbl] at hi
        exact (hp i l[i] (List.getElem?_eq_getElem hi)).1)
      omega
structure InR (W : World) (pd : Option Addr) (ds : List Dx) (pt : Option Addr) (tr : List Ax) (ps : Option Addr) (st : List Int) : Prop where
  dd : DRd W pd ds
  tt : ARd W pt tr
  ss : IRd W ps st
  dok : ∀ d ∈ ds, d.Ok
  tok : ∀ x ∈ tr, x.Ok
  sok : ∀ z ∈ st, isI z
  dl : ds.length ≤ 1048576
  tl : tr.length ≤ 1048576
  sl : st.length ≤ 1048576
theorem InR.on {W X : World} {pd : Option Addr} {ds : List Dx} {pt : Option Addr} {tr : List Ax} {ps : Option Addr} {st : List Int} (h : InR W pd ds pt tr ps st) (hb : Below W.heap.size W X) : InR X pd ds pt tr ps st := ⟨h.dd.on hb, h.tt.on hb, h.ss.on hb, h.dok, h.tok, h.sok, h.dl, h.tl, h.sl⟩
theorem result_open {H : Type} {enc : TypeId × Value → H} {W : World} {sp : Nat → Bool} {held : Bool} {fuel : Nat} {cs : List Value} {x : DataW H × List MemPlace} (h : DataW.trod enc Tryz.prog W 0 sp held fuel 37 cs = some x) (hb : Rows.uptoBulk x.1 ≤ 1048576) :
    ∃ (pd : Option Addr) (cd : Nat) (ds : List Dx) (pt : Option Addr) (ct : Nat) (tr : List Ax) (ps : Option Addr) (cc : Nat) (st : List Int), cs = [.slice pd ds.length cd, .slice pt tr.length ct, .slice ps st.length cc] ∧ InR W pd ds pt tr ps st := by
  obtain ⟨xs, n, hn, hx, hl, hlen, hh⟩ := DataW.trod_struct Tryz.underlying37 h
  rw [cw_tresult] at hl
  have h0 := (hh 0 _ rfl).trans (List.getElem?_eq_getElem (show 0 < xs.length by rw [hlen]; decide))
  have h1 := (hh 1 _ rfl).trans (List.getElem?_eq_getElem (show 1 < xs.length by rw [hlen]; decide))
  have h2 := (hh 2 _ rfl).trans (List.getElem?_eq_getElem (show 2 < xs.length by rw [hlen]; decide))
  have hx1 : x.1 = .agg (xs.map Prod.fst) := by rw [hx]
  have hl3 : xs.length = 3 := by rw [hlen]; rfl
  have hbk : ∀ i (hi : i < xs.length), Rows.uptoBulk (xs[i]'hi).1 ≤ 1048576 := by
    intro i hi
    rw [hx1] at hb
    match xs, hl3, hi with
    | [x0, x1, x2], _, hi =>
      simp only [List.map_cons, List.map_nil, Rows.uptoBulk, Rows.uptoBulkAll] at hb
      have : i = 0 ∨ i = 1 ∨ i = 2 := by simp at hi; omega
      rcases this with rfl | rfl | rfl <;> simp <;> omega
  obtain ⟨pd, cd, ds, e0, d1, d2, d3⟩ := dids_open h0
  obtain ⟨pt, ct, tr, e1, hin⟩ := accs_open h1 (hbk 1 _)
  obtain ⟨ps, cc, st, e2, s1, s2, s3⟩ := ints_open h2
  have r0 : (cs.drop 0).take (Tryz.prog.cellsOf 34) = _ := e0
  rw [cw_tdids] at r0
  have r1 : (cs.drop 1).take (Tryz.prog.cellsOf 22) = _ := e1
  rw [cw_taccs] at r1
  have r2 : (cs.drop 2).take (Tryz.prog.cellsOf 35) = _ := e2
  rw [cw_tints] at r2
  have s0 : cs.drop 0 = _ ++ cs.drop 1 := cut_next r0
  have s1' : cs.drop 1 = _ ++ cs.drop 2 := cut_next r1
  have s2' : cs.drop 2 = _ ++ cs.drop 3 := cut_next r2
  have z : cs.drop 3 = [] := List.drop_eq_nil_of_le (by omega)
  rw [z] at s2'
  rw [s2'] at s1'
  rw [s1'] at s0
  refine ⟨pd, cd, ds, pt, ct, tr, ps, cc, st, (List.drop_zero (l := cs)).symm.trans s0, d1, hin.rd, s1, d2, hin.ok, s2, ?_, hin.len, ?_⟩
  · have := hbk 0 (by omega)
    omega
  · have := hbk 2 (by omega)
    omega
end Go.Proofs.YtjodechhnobkhaaGreatDoor
