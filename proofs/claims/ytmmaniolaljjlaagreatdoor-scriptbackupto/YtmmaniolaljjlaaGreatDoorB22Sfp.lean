/- What comes in: a script. -/
import Derived.Test.YtmmaniolaljjlaaGreatDoorB21Sdo
import Derived.Test.YtmmaniolaljjlaaGreatDoorB12Scq
import Derived.Test.YtmmaniolaljjlaaGreatDoorB20Scx
namespace Go.Proofs.YtmmaniolaljjlaaGreatDoor
open Go.RowKit Go.Joins Go.ChangeShapes Go.WideShapes Go.Deep
set_option linter.unusedVariables false

theorem list4 {α : Type} {cs : List α} (h : cs.length = 4) : ∃ c0 c1 c2 c3, cs = [c0, c1, c2, c3] := by
  match cs, h with
  | [c0, c1, c2, c3], _ => exact ⟨c0, c1, c2, c3, rfl⟩
theorem list6 {α : Type} {cs : List α} (h : cs.length = 6) : ∃ c0 c1 c2 c3 c4 c5, cs = [c0, c1, c2, c3, c4, c5] := by
  match cs, h with
  | [c0, c1, c2, c3, c4, c5], _ => exact ⟨c0, c1, c2, c3, c4, c5, rfl⟩
theorem ones : ∀ (k : List Int), (k.map (fun _ => 1)).sum = k.length
  | [] => rfl
  | a :: r => by simp only [List.map_cons, List.sum_cons, List.length_cons, ones r]; omega
theorem co_t : Tryz.prog.cellsOf 75 = 1 := by kernel_rfl
theorem co_sc : Tryz.prog.cellsOf 46 = 6 := by kernel_rfl
theorem co_cf : Tryz.prog.cellsOf 42 = 4 := by kernel_rfl
theorem co_th : Tryz.prog.cellsOf 43 = 1 := by kernel_rfl
theorem co_is : Tryz.prog.cellsOf 44 = 1 := by kernel_rfl
def wtO (l : List Opx) : Nat := (l.map (fun o => o.keys.length + 1)).sum
def wtT (ts : List (List Opx)) : Nat := (ts.map (fun l => wtO l + 1)).sum
theorem sum_le : ∀ {α : Type} (l : List α) (f : α → Nat) (bu : List Nat), bu.length = l.length → (∀ (i : Nat) (y : α), l[i]? = some y → f y ≤ bu.getD i 0) → (l.map f).sum ≤ bu.sum
  | α, [], f, bu, _, _ => by simp
  | α, y :: l, f, [], h, _ => by simp at h
  | α, y :: l, f, b :: bu, h, hp => by
    have h0 := hp 0 y rfl
    have ih := sum_le l f bu (by simpa using h) (fun i z hz => by have := hp (i + 1) z (by simpa using hz); simpa using this)
    simp only [List.map_cons, List.sum_cons]
    simp at h0
    omega
theorem wt_len (l : List Opx) : l.length ≤ wtO l := by
  induction l with
  | nil => simp [wtO]
  | cons a r ih => simp only [wtO, List.map_cons, List.sum_cons, List.length_cons] at ih ⊢; omega
theorem wt_mem {l : List Opx} {o : Opx} (h : o ∈ l) : o.keys.length ≤ wtO l := by
  induction l with
  | nil => simp at h
  | cons a r ih =>
    simp only [wtO, List.map_cons, List.sum_cons] at ih ⊢
    rcases List.mem_cons.1 h with rfl | h
    · omega
    · have := ih h; omega
theorem wtT_len (ts : List (List Opx)) : ts.length ≤ wtT ts := by
  induction ts with
  | nil => simp [wtT]
  | cons a r ih => simp only [wtT, List.map_cons, List.sum_cons, List.length_cons] at ih ⊢; omega
theorem wtT_mem {ts : List (List Opx)} {l : List Opx} (h : l ∈ ts) : wtO l ≤ wtT ts := by
  induction ts with
  | nil => simp at h
  | cons a r ih =>
    simp only [wtT, List.map_cons, List.sum_cons] at ih ⊢
    rcases List.mem_cons.1 h with rfl | h
    · omega
    · have := ih h; omega
theorem ops_open {H : Type} {enc : TypeId × Value → H} {W : World} {sp : Nat → Bool} {held : Bool} {fuel : Nat} {cs : List Value} {x : DataW H × List MemPlace} (h : DataW.trod enc Tryz.prog W 0 sp held fuel 75 cs = some x) :
    ∃ (p : Option Addr) (c : Nat) (l : List Opx), cs = [.slice p l.length c] ∧ ORd W p l ∧ (∀ o ∈ l, o.Ok) ∧ wtO l + 1 ≤ Rows.uptoBulk x.1 := by
  obtain ⟨p, n, c, hcs, bu, hbl, hbs, hr⟩ := slice_rowsS (s := 11) (Q := fun w cs => ∃ (o : Opx) (kp : Option Addr) (kc : Nat), cs = (opV o kp kc).toList ∧ o.Ok ∧ KRd W kp o.keys ∧ o.keys.length + 1 ≤ w) Tryz.underlying75 co_op (by decide) (fun fuel cs y hy => by
    have h1 := op_open hy
    refine ⟨h1, ?_⟩
    obtain ⟨o, kp, kc, e, _⟩ := h1
    rw [e]; rfl) h
  rcases hr with rfl | ⟨bk, off, rfl, hbk, hr⟩
  · exact ⟨p, c, [], hcs, .inl rfl, fun u hu => by simp at hu, by simpa [wtO] using bulk_one x.1⟩
  · obtain ⟨l, hl, hp⟩ := choose_list (P := fun i (o : Opx) => o.Ok ∧ o.keys.length + 1 ≤ bu.getD i 0 ∧ ∃ kp kc, KRd W kp o.keys ∧ ∀ (j : Nat) u, (opV o kp kc)[j]? = some u → W.cell? ⟨bk, off + i * 11 + j, none⟩ = some u) n (fun i hi => by
      obtain ⟨cs', ⟨w, hw, o, kp, kc, rfl, ho, hK, hwt⟩, hc⟩ := hr i hi
      refine ⟨o, ho, by simp only [List.getD, hw]; exact hwt, kp, kc, hK, fun j u hj => ?_⟩
      have := hc j u (by simpa using hj)
      rw [Nat.add_assoc]
      exact this)
    subst hl
    refine ⟨_, c, l, hcs, .inr ⟨bk, off, rfl, hbk, fun i o ho => ?_⟩, fun o ho => ?_, ?_⟩
    · obtain ⟨kp, kc, hK, hc⟩ := (hp i o ho).2.2
      exact ⟨kp, kc, hK, hc 0 _ rfl, hc 1 _ rfl, hc 2 _ rfl, hc 3 _ rfl, hc 4 _ rfl, hc 5 _ rfl, hc 6 _ rfl, hc 7 _ rfl, hc 8 _ rfl, hc 9 _ rfl, hc 10 _ rfl⟩
    · obtain ⟨i, hi, rfl⟩ := List.getElem_of_mem ho
      exact (hp i _ (List.getElem?_eq_getElem hi)).1
    · have := sum_le l (fun o => o.keys.length + 1) bu hbl (fun i y hy => (hp i y hy).2.1)
      unfold wtO
      omega
theorem ths_open {H : Type} {enc : TypeId × Value → H} {W : World} {sp : Nat → Bool} {held : Bool} {fuel : Nat} {cs : List Value} {x : DataW H × List MemPlace} (h : DataW.trod enc Tryz.prog W 0 sp held fuel 43 cs = some x) :
    ∃ (p : Option Addr) (c : Nat) (ts : List (List Opx)), cs = [.slice p ts.length c] ∧ TRd W p ts ∧ (∀ l ∈ ts, ∀ o ∈ l, o.Ok) ∧ wtT ts + 1 ≤ Rows.uptoBulk x.1 := by
  obtain ⟨p, n, c, hcs, bu, hbl, hbs, hr⟩ := slice_rowsS (s := 1) (Q := fun w cs => ∃ (p : Option Addr) (c : Nat) (l : List Opx), cs = [.slice p l.length c] ∧ ORd W p l ∧ (∀ o ∈ l, o.Ok) ∧ wtO l + 1 ≤ w) Tryz.underlying43 co_t (by decide) (fun fuel cs y hy => by
    have h1 := ops_open hy
    refine ⟨h1, ?_⟩
    obtain ⟨p, c, l, e, _⟩ := h1
    rw [e]; rfl) h
  rcases hr with rfl | ⟨bk, off, rfl, hbk, hr⟩
  · exact ⟨p, c, [], hcs, .inl rfl, fun u hu => by simp at hu, by simpa [wtT] using bulk_one x.1⟩
  · obtain ⟨ts, hl, hp⟩ := choose_list (P := fun i (l : List Opx) => (∀ o ∈ l, o.Ok) ∧ wtO l + 1 ≤ bu.getD i 0 ∧ ∃ lp lc, ORd W lp l ∧ W.cell? ⟨bk, off + i, none⟩ = some (.slice lp l.length lc)) n (fun i hi => by
      obtain ⟨cs', ⟨w, hw, lp, lc, l, rfl, hO, ho, hwt⟩, hc⟩ := hr i hi
      refine ⟨l, ho, by simp only [List.getD, hw]; exact hwt, lp, lc, hO, ?_⟩
      have := hc 0 _ rfl
      simpa using this)
    subst hl
    refine ⟨_, c, ts, hcs, .inr ⟨bk, off, rfl, hbk, fun i l hl => (hp i l hl).2.2⟩, fun l hl => ?_, ?_⟩
    · obtain ⟨i, hi, rfl⟩ := List.getElem_of_mem hl
      exact (hp i _ (List.getElem?_eq_getElem hi)).1
    · have := sum_le ts (fun l => wtO l + 1) bu hbl (fun i y hy => (hp i y hy).2.1)
      unfold wtT
      omega
theorem ints_open {H : Type} {enc : TypeId × Value → H} {W : World} {sp : Nat → Bool} {held : Bool} {fuel : Nat} {cs : List Value} {x : DataW H × List MemPlace} (h : DataW.trod enc Tryz.prog W 0 sp held fuel 44 cs = some x) :
    ∃ (p : Option Addr) (c : Nat) (l : List Int), cs = [.slice p l.length c] ∧ IRd W p l ∧ (∀ z ∈ l, isI z) ∧ l.length + 1 ≤ Rows.uptoBulk x.1 ∧ l.length ≤ c := by
  have hcap : ∀ p n c, cs = [.slice p n c] → n ≤ c := fun p n c e => by
    rcases open_slice Tryz.underlying44 h with ⟨hcs, _⟩ | ⟨a, len, cap, m, k, D, Pl, hcs, _, hl, _⟩
    · rw [e] at hcs; simp at hcs; omega
    · rw [e] at hcs; simp at hcs; omega
  obtain ⟨p, n, c, hcs, bu, hbl, hbs, hr⟩ := slice_rowsS (s := 1) (Q := fun w cs => 1 ≤ w ∧ ∃ z : Int, isI z ∧ cs = [.int .i64 z]) Tryz.underlying44 co_i (by decide) (fun fuel cs y hy => by
    obtain ⟨z, e, _, w⟩ := DataW.trod_int Tryz.underlying3 hy
    have b := bounds_i64 w
    exact ⟨⟨bulk_one _, z, ⟨b.1, by have := b.2; omega⟩, e⟩, by rw [e]; rfl⟩) h
  have hnc := hcap p n c hcs
  rcases hr with rfl | ⟨bk, off, rfl, hbk, hr⟩
  · exact ⟨p, c, [], hcs, .inl rfl, fun u hu => by simp at hu, by simpa using bulk_one x.1, by simp⟩
  · obtain ⟨l, hl, hp⟩ := choose_list (P := fun i (z : Int) => (1 ≤ bu.getD i 0) ∧ isI z ∧ W.cell? ⟨bk, off + i, none⟩ = some (.int .i64 z)) n (fun i hi => by
      obtain ⟨cs', ⟨w, hw, h1, z, hz, rfl⟩, hc⟩ := hr i hi
      refine ⟨z, by simp [List.getD, hw]; exact h1, hz, ?_⟩
      have := hc 0 _ rfl
      simpa using this)
    subst hl
    refine ⟨_, c, l, hcs, .inr ⟨bk, off, rfl, hbk, fun i z hz => (hp i z hz).2.2⟩, fun z hz => ?_, ?_, hnc⟩
    · obtain ⟨i, hi, rfl⟩ := List.getElem_of_mem hz
      exact (hp i _ (List.getElem?_eq_getElem hi)).2.1
    · have := sum_le l (fun _ => 1) bu hbl (fun i y hy => (hp i y hy).1)
      rw [ones] at this
      omega
theorem cfg_open {H : Type} {enc : TypeId × Value → H} {W : World} {sp : Nat → Bool} {held : Bool} {fuel : Nat} {cs : List Value} {x : DataW H × List MemPlace} (h : DataW.trod enc Tryz.prog W 0 sp held fuel 42 cs = some x) : ∃ (ce sl : Int) (stp : Nat) (mu : Int), cs = [.int .i64 ce, .int .i64 sl, .int .u64 (stp : Int), .int .i64 mu] ∧ isI ce ∧ isI sl ∧ isU stp ∧ isI mu := by
  obtain ⟨xs, n, hn, hx, hl, hlen, hh⟩ := DataW.trod_struct Tryz.underlying42 h
  rw [co_cf] at hl
  obtain ⟨c0, c1, c2, c3, rfl⟩ := list4 hl
  obtain ⟨y0, y1, y2, y3, rfl⟩ := list4 (show xs.length = 4 from hlen)
  have h0 : DataW.trod enc Tryz.prog W 0 sp held n 3 [c0] = some y0 := by have := hh 0 _ rfl; simpa [co_i] using this
  have h1 : DataW.trod enc Tryz.prog W 0 sp held n 3 [c1] = some y1 := by have := hh 1 _ rfl; simpa [co_i] using this
  have h2 : DataW.trod enc Tryz.prog W 0 sp held n 23 [c2] = some y2 := by have := hh 2 _ rfl; simpa [co_u] using this
  have h3 : DataW.trod enc Tryz.prog W 0 sp held n 3 [c3] = some y3 := by have := hh 3 _ rfl; simpa [co_i] using this
  obtain ⟨z0, e0, _, w0⟩ := DataW.trod_int Tryz.underlying3 h0
  obtain ⟨z1, e1, _, w1⟩ := DataW.trod_int Tryz.underlying3 h1
  obtain ⟨z2, e2, _, w2⟩ := DataW.trod_int Tryz.underlying23 h2
  obtain ⟨z3, e3, _, w3⟩ := DataW.trod_int Tryz.underlying3 h3
  have b0 := bounds_i64 w0
  have b1 := bounds_i64 w1
  have b3 := bounds_i64 w3
  obtain ⟨s, rfl, hs⟩ := nat_u64 w2
  simp at e0 e1 e2 e3
  subst e0 e1 e2 e3
  exact ⟨z0, z1, s, z3, rfl, ⟨b0.1, by have := b0.2; omega⟩, ⟨b1.1, by have := b1.2; omega⟩, hs, ⟨b3.1, by have := b3.2; omega⟩⟩
theorem script_open {H : Type} {enc : TypeId × Value → H} {W : World} {sp : Nat → Bool} {held : Bool} {fuel : Nat} {cs : List Value} {x : DataW H × List MemPlace} (h : DataW.trod enc Tryz.prog W 0 sp held fuel 46 cs = some x) :
    ∃ (ce sl : Int) (stp : Nat) (mu : Int) (tp : Option Addr) (tc : Nat) (ts : List (List Opx)) (pp : Option Addr) (pc : Nat) (ps : List Int), cs = (scR ce sl stp mu (.slice tp ts.length tc) (.slice pp ps.length pc)).toList ∧ (isI ce ∧ isI sl ∧ isU stp ∧ isI mu) ∧ TRd W tp ts ∧ IRd W pp ps ∧ ps.length ≤ pc ∧ (∀ l ∈ ts, ∀ o ∈ l, o.Ok) ∧ (∀ z ∈ ps, isI z) ∧ wtT ts + ps.length ≤ Rows.uptoBulk x.1 := by
  obtain ⟨xs, n, hn, hx, hl, hlen, hh⟩ := DataW.trod_struct Tryz.underlying46 h
  rw [co_sc] at hl
  obtain ⟨c0, c1, c2, c3, c4, c5, rfl⟩ := list6 hl
  obtain ⟨y0, y1, y2, rfl⟩ := list3 (show xs.length = 3 from hlen)
  have h0 : DataW.trod enc Tryz.prog W 0 sp held n 42 [c0, c1, c2, c3] = some y0 := by have := hh 0 _ rfl; simpa [co_cf] using this
  have h1 : DataW.trod enc Tryz.prog W 0 sp held n 43 [c4] = some y1 := by have := hh 1 _ rfl; simpa [co_th] using this
  have h2 : DataW.trod enc Tryz.prog W 0 sp held n 44 [c5] = some y2 := by have := hh 2 _ rfl; simpa [co_is] using this
  obtain ⟨ce, sl, stp, mu, e0, q1, q2, q3, q4⟩ := cfg_open h0
  obtain ⟨tp, tc, ts, e1, hT, hto, hwt⟩ := ths_open h1
  obtain ⟨pp, pc, ps, e2, hP, hpi, hpb, hpc⟩ := ints_open h2
  simp at e0 e1 e2
  obtain ⟨a0, a1, a2, a3⟩ := e0
  subst a0 a1 a2 a3 e1 e2
  refine ⟨ce, sl, stp, mu, tp, tc, ts, pp, pc, ps, rfl, ⟨q1, q2, q3, q4⟩, hT, hP, hpc, hto, hpi, ?_⟩
  have hx1 : x.1 = .agg [y0.1, y1.1, y2.1] := by rw [hx]; rfl
  rw [hx1]
  simp only [Rows.uptoBulk, Rows.uptoBulkAll]
  (try simp only at hwt hpb ⊢)
  omega
theorem script_ok {ts : List (List Opx)} {ps : List Int} (h1 : ∀ l ∈ ts, ∀ o ∈ l, o.Ok) (h2 : ∀ z ∈ ps, isI z) (hb : wtT ts + ps.length ≤ 1048576) : SOk ts ps := by
  refine ⟨by have := wtT_len ts; omega, by omega, fun l hl => ?_, fun l hl o ho => ⟨h1 l hl o ho, ?_⟩, h2⟩
  · have := wt_len l; have := wtT_mem hl; omega
  · have := wt_mem ho; have := wtT_mem hl; omega
theorem textO_len {o : Opx} (h : o.Ok) : (textO o).length ≤ 101 * (6 + o.keys.length) := by
  have hf : ∀ f ∈ partO o, f.length ≤ 100 := fun f hf => by
    unfold partO partsO at hf
    simp only [List.mem_append, List.mem_map, List.mem_singleton] at hf
    rcases hf with ((rfl | hf) | ⟨i, _, rfl⟩) | hf
    · unfold opW
      by_cases hk : o.k < 11
      · have : o.k = 0 ∨ o.k = 1 ∨ o.k = 2 ∨ o.k = 3 ∨ o.k = 4 ∨ o.k = 5 ∨ o.k = 6 ∨ o.k = 7 ∨ o.k = 8 ∨ o.k = 9 ∨ o.k = 10 := by omega
        rcases this with e | e | e | e | e | e | e | e | e | e | e <;> rw [e] <;> decide
      · rw [List.getD, List.getElem?_eq_none (by show 11 ≤ o.k; omega)]
        simp
    · split at hf
      · simp at hf
        subst hf
        unfold hText
        have a := itoa_len h.rt
        have b := itoa_len h.ri
        have c := dec_len h.hnd
        split
        · simp; omega
        · omega
      · simp at hf
    · have := dec_len (numAt_u h.key h.val h.old h.lo h.hi i)
      omega
    · split at hf
      · obtain ⟨u, hu, rfl⟩ := List.mem_map.1 hf
        have := dec_len (h.keys u hu)
        omega
      · simp at hf
  have hc : (partO o).length ≤ 6 + o.keys.length := by
    unfold partO partsO
    simp only [List.length_append, List.length_map, List.length_cons, List.length_nil]
    have n3 : (numK o.k).length ≤ 3 := by unfold numK; split <;> simp
    split <;> split <;> simp <;> omega
  have := join_len (partO o) hf
  show (Lib.join (partO o) [32]).length ≤ _
  omega
theorem opsT_len {l : List Opx} (h : ∀ o ∈ l, o.Ok) : (opsT l).length ≤ 707 * wtO l := by
  induction l with
  | nil => simp [opsT]
  | cons a r ih =>
    have h1 := ih (fun o ho => h o (by simp [ho]))
    have h2 := textO_len (h a (by simp))
    rw [opsT_cons]
    simp only [wtO, List.map_cons, List.sum_cons, List.length_append, List.length_cons, List.length_nil] at h1 ⊢
    omega
theorem thsT_len {ts : List (List Opx)} (h : ∀ l ∈ ts, ∀ o ∈ l, o.Ok) : (thsT ts).length ≤ 707 * wtT ts := by
  induction ts with
  | nil => simp [thsT]
  | cons a r ih =>
    have h1 := ih (fun l hl => h l (by simp [hl]))
    have h2 := opsT_len (h a (by simp))
    rw [thsT_cons]
    simp only [wtT, List.map_cons, List.sum_cons, List.length_append, thT, thW, List.length_cons, List.length_nil] at h1 ⊢
    omega
theorem pksT_len : ∀ (n : Nat) (l : List Int), l.length ≤ n → (∀ z ∈ l, isI z) → (pksT l).length ≤ 2222 * l.length
  | 0, l, hn, _ => by
    have : l = [] := List.eq_nil_of_length_eq_zero (by omega)
    subst this
    rw [pksT_nil]
    simp
  | n + 1, l, hn, h => by
    by_cases e : l = []
    · subst e; rw [pksT_nil]; simp
    · have hl : 0 < l.length := List.length_pos_iff.2 e
      have ih := pksT_len n (l.drop 20) (by rw [List.length_drop]; omega) (fun z hz => h z (List.mem_of_mem_drop hz))
      have hp := pkT_len (l.take 20) (fun z hz => h z (List.mem_of_mem_take hz))
      rw [List.length_drop] at ih
      rw [List.length_take] at hp
      rw [pksT_step e]
      simp only [List.length_append, List.length_cons, List.length_nil]
      omega
theorem texS_len {ce sl : Int} {stp : Nat} {mu : Int} {ts : List (List Opx)} {ps : List Int} (h1 : isI ce) (h2 : isI sl) (h3 : isU stp) (h4 : isI mu) (h5 : ∀ l ∈ ts, ∀ o ∈ l, o.Ok) (h6 : ∀ z ∈ ps, isI z) (hb : wtT ts + ps.length ≤ 1048576) : (texS ce sl stp mu ts ps).length ≤ 100000000000 := by
  have a := cfT_len h1 h2 h3 h4
  have b := thsT_len h5
  have c := pksT_len ps.length ps (Nat.le_refl _) h6
  unfold texS
  simp only [List.length_append, List.length_cons, List.length_nil]
  omega
end Go.Proofs.YtmmaniolaljjlaaGreatDoor
/- What a right script's text reads as; what a script that was read prints as: what is pure. -/
namespace Go.Proofs.YtmmaniolaljjlaaGreatDoor
open Go.RowKit Go.Shelf Go.Maps
set_option linter.unusedVariables false

theorem itoa10 (n : Int) : noB 10 (Lib.itoa n) := itoa_no n 10 (by decide)
theorem opW_10 (k : Nat) : noB 10 (opW k) := by
  unfold opW
  by_cases hk : k < 11
  · have : k = 0 ∨ k = 1 ∨ k = 2 ∨ k = 3 ∨ k = 4 ∨ k = 5 ∨ k = 6 ∨ k = 7 ∨ k = 8 ∨ k = 9 ∨ k = 10 := by omega
    rcases this with rfl | rfl | rfl | rfl | rfl | rfl | rfl | rfl | rfl | rfl | rfl <;> (unfold noB; decide)
  · rw [List.getD, List.getElem?_eq_none (by show 11 ≤ k; omega)]
    exact noB_nil _
theorem hText_10 (hnd : Nat) (set : Bool) (rt ri : Int) : noB 10 (hText hnd set rt ri) := by
  unfold hText
  cases set with
  | false => exact (dec_no _).2
  | true =>
    have a : noB 10 [64] := by unfold noB; decide
    have b : noB 10 [46] := by unfold noB; decide
    exact ((a.append (itoa10 _)).append b).append (itoa10 _)
theorem textO_10 (o : Opx) : noB 10 (textO o) := by
  refine join_noB (partO o) (fun f hf => ?_)
  unfold partO partsO at hf
  rcases List.mem_append.1 hf with hf | hf
  · rcases List.mem_append.1 hf with hf | hf
    · rcases List.mem_append.1 hf with hf | hf
      · simp at hf
        subst hf
        exact opW_10 _
      · split at hf
        · simp at hf
          subst hf
          exact hText_10 _ _ _ _
        · simp at hf
    · obtain ⟨u, hu, rfl⟩ := List.mem_map.1 hf
      exact (dec_no _).2
  · split at hf
    · obtain ⟨u, hu, rfl⟩ := List.mem_map.1 hf
      exact (dec_no _).2
    · simp at hf
theorem pkT_10 (l : List Int) : noB 10 (pkT l) := by
  refine join_noB (pkL l) (fun f hf => ?_)
  rcases List.mem_cons.1 hf with rfl | hf
  · unfold noB; decide
  · obtain ⟨x, _, rfl⟩ := List.mem_map.1 hf
    exact itoa10 _
theorem cfT_10 (ce sl : Int) (stp : Nat) (mu : Int) : noB 10 (cfT ce sl stp mu) := by
  refine join_noB (cfL ce sl stp mu) (fun f hf => ?_)
  simp [cfL] at hf
  rcases hf with rfl | rfl | rfl | rfl | rfl
  · unfold noB; decide
  · exact itoa10 _
  · exact itoa10 _
  · exact (dec_no _).2
  · exact itoa10 _
theorem thW_10 : noB 10 thW := by unfold noB; decide
/-- the lines of a script -/
def thLs (ts : List (List Opx)) : List (List UInt8) := (ts.map (fun l => thW :: l.map textO)).flatten
def pkLs (l : List Int) : List (List UInt8) := if h : l = [] then [] else pkT (l.take 20) :: pkLs (l.drop 20)
  termination_by l.length
  decreasing_by
    have : 0 < l.length := List.length_pos_iff.2 h
    simp
    omega
theorem pkLs_nil : pkLs [] = [] := by rw [pkLs]; simp
theorem pkLs_step {l : List Int} (h : l ≠ []) : pkLs l = pkT (l.take 20) :: pkLs (l.drop 20) := by rw [pkLs]; simp [h]
def lnS (ce sl : Int) (stp : Nat) (mu : Int) (ts : List (List Opx)) (ps : List Int) : List (List UInt8) := cfT ce sl stp mu :: (thLs ts ++ pkLs ps)
theorem joinL_ops (l : List Opx) : joinL (l.map textO) = opsT l := by
  induction l with
  | nil => rfl
  | cons o l ih => rw [List.map_cons, joinL_cons, opsT_cons, ih]; simp
theorem joinL_ths (ts : List (List Opx)) : joinL (thLs ts) = thsT ts := by
  induction ts with
  | nil => rfl
  | cons l ts ih =>
    rw [thsT_cons, ← ih]
    show joinL ((thW :: l.map textO) ++ thLs ts) = _
    rw [joinL_app, joinL_cons, joinL_ops]
    simp [thT]
theorem joinL_pks : ∀ (n : Nat) (l : List Int), l.length ≤ n → joinL (pkLs l) = pksT l
  | 0, l, hn => by
    have : l = [] := List.eq_nil_of_length_eq_zero (by omega)
    subst this
    rw [pkLs_nil, pksT_nil]; rfl
  | n + 1, l, hn => by
    by_cases e : l = []
    · subst e; rw [pkLs_nil, pksT_nil]; rfl
    · have hl : 0 < l.length := List.length_pos_iff.2 e
      rw [pkLs_step e, pksT_step e, joinL_cons, joinL_pks n (l.drop 20) (by rw [List.length_drop]; omega)]
      simp
theorem joinL_lnS (ce sl : Int) (stp : Nat) (mu : Int) (ts : List (List Opx)) (ps : List Int) : joinL (lnS ce sl stp mu ts ps) = texS ce sl stp mu ts ps := by
  unfold lnS texS
  rw [joinL_cons, joinL_app, joinL_ths, joinL_pks ps.length ps (Nat.le_refl _)]
  simp
theorem mem_ths {ts : List (List Opx)} {f : List UInt8} (h : f ∈ thLs ts) : f = thW ∨ ∃ l ∈ ts, ∃ o ∈ l, f = textO o := by
  unfold thLs at h
  obtain ⟨g, hg, hf⟩ := List.mem_flatten.1 h
  obtain ⟨l, hl, rfl⟩ := List.mem_map.1 hg
  rcases List.mem_cons.1 hf with rfl | hf
  · exact .inl rfl
  · obtain ⟨o, ho, rfl⟩ := List.mem_map.1 hf
    exact .inr ⟨l, hl, o, ho, rfl⟩
theorem mem_pks : ∀ (n : Nat) (l : List Int), l.length ≤ n → ∀ f ∈ pkLs l, ∃ q : List Int, f = pkT q ∧ q.length ≤ 20 ∧ ∀ z ∈ q, z ∈ l
  | 0, l, hn, f, hf => by
    have : l = [] := List.eq_nil_of_length_eq_zero (by omega)
    subst this
    rw [pkLs_nil] at hf
    simp at hf
  | n + 1, l, hn, f, hf => by
    by_cases e : l = []
    · subst e; rw [pkLs_nil] at hf; simp at hf
    · have hl : 0 < l.length := List.length_pos_iff.2 e
      rw [pkLs_step e] at hf
      rcases List.mem_cons.1 hf with rfl | hf
      · exact ⟨l.take 20, rfl, by rw [List.length_take]; omega, fun z hz => List.mem_of_mem_take hz⟩
      · obtain ⟨q, h1, h2, h3⟩ := mem_pks n (l.drop 20) (by rw [List.length_drop]; omega) f hf
        exact ⟨q, h1, h2, fun z hz => List.mem_of_mem_drop (h3 z hz)⟩
theorem lnS_10 (ce sl : Int) (stp : Nat) (mu : Int) (ts : List (List Opx)) (ps : List Int) : ∀ f ∈ lnS ce sl stp mu ts ps, noB 10 f := fun f hf => by
  rcases List.mem_cons.1 hf with rfl | hf
  · exact cfT_10 _ _ _ _
  · rcases List.mem_append.1 hf with hf | hf
    · rcases mem_ths hf with rfl | ⟨l, _, o, _, rfl⟩
      · exact thW_10
      · exact textO_10 o
    · obtain ⟨q, rfl, _⟩ := mem_pks ps.length ps (Nat.le_refl _) f hf
      exact pkT_10 q
theorem lnS_ln (ce sl : Int) (stp : Nat) (mu : Int) (ts : List (List Opx)) (ps : List Int) : LnT (texS ce sl stp mu ts ps) (lnS ce sl stp mu ts ps) [] := ⟨by rw [joinL_lnS]; simp, noB_nil _, lnS_10 ce sl stp mu ts ps⟩
theorem RdAll.app {s y z : Option Rdg} {l1 l2 : List (List UInt8)} (h : RdAll s l1 y) (h' : RdAll y l2 z) : RdAll s (l1 ++ l2) z := by
  induction h with
  | nil s => exact h'
  | cons s l x ls z' hg hr ih => exact .cons _ _ _ _ _ hg (ih h')
theorem rd_ops (ce sl : Int) (stp : Nat) (mu : Int) (ts : List (List Opx)) : ∀ (l l0 : List Opx), (∀ o ∈ l, rightO o) → RdAll (some ⟨ce, sl, stp, mu, ts ++ [l0], []⟩) (l.map textO) (some ⟨ce, sl, stp, mu, ts ++ [l0 ++ l], []⟩)
  | [], l0, _ => by simpa using RdAll.nil _
  | o :: l, l0, h => by
    have ih := rd_ops ce sl stp mu ts l (l0 ++ [o]) (fun x hx => h x (by simp [hx]))
    rw [List.append_assoc] at ih
    exact .cons _ _ _ _ _ (.op ce sl stp mu ts l0 o (h o (by simp))) ih
theorem rd_ths (ce sl : Int) (stp : Nat) (mu : Int) : ∀ (ts ts0 : List (List Opx)), (∀ l ∈ ts, ∀ o ∈ l, rightO o) → RdAll (some ⟨ce, sl, stp, mu, ts0, []⟩) (thLs ts) (some ⟨ce, sl, stp, mu, ts0 ++ ts, []⟩)
  | [], ts0, _ => by
    show RdAll _ [] _
    simpa using RdAll.nil _
  | l :: ts, ts0, h => by
    have ih := rd_ths ce sl stp mu ts (ts0 ++ [l]) (fun x hx => h x (by simp [hx]))
    rw [List.append_assoc] at ih
    have h1 := rd_ops ce sl stp mu ts0 l [] (h l (by simp))
    have h2 : RdAll (some ⟨ce, sl, stp, mu, ts0, []⟩) (thW :: l.map textO) (some ⟨ce, sl, stp, mu, ts0 ++ [l], []⟩) := .cons _ _ _ _ _ (.thr ce sl stp mu ts0) (by simpa using h1)
    exact h2.app ih
theorem rd_pks (ce sl : Int) (stp : Nat) (mu : Int) (ts : List (List Opx)) : ∀ (n : Nat) (l p0 : List Int), l.length ≤ n → p0.length % 20 = 0 → (∀ z ∈ l, isI z) → RdAll (some ⟨ce, sl, stp, mu, ts, p0⟩) (pkLs l) (some ⟨ce, sl, stp, mu, ts, p0 ++ l⟩)
  | 0, l, p0, hn, _, _ => by
    have : l = [] := List.eq_nil_of_length_eq_zero (by omega)
    subst this
    rw [pkLs_nil]
    simpa using RdAll.nil _
  | n + 1, l, p0, hn, h20, hi => by
    by_cases e : l = []
    · subst e; rw [pkLs_nil]; simpa using RdAll.nil _
    · have hl : 0 < l.length := List.length_pos_iff.2 e
      rw [pkLs_step e]
      have hg : Goes1 (some ⟨ce, sl, stp, mu, ts, p0⟩) (pkT (l.take 20)) ⟨ce, sl, stp, mu, ts, p0 ++ l.take 20⟩ := .pk ce sl stp mu ts p0 (l.take 20) h20 (by rw [List.length_take]; omega) (by rw [List.length_take]; omega) (fun z hz => hi z (List.mem_of_mem_take hz))
      refine .cons _ _ _ _ _ hg ?_
      by_cases h20l : 20 ≤ l.length
      · have ih := rd_pks ce sl stp mu ts n (l.drop 20) (p0 ++ l.take 20) (by rw [List.length_drop]; omega) (by rw [List.length_append, List.length_take]; omega) (fun z hz => hi z (List.mem_of_mem_drop hz))
        rwa [List.append_assoc, List.take_append_drop] at ih
      · have e2 : l.drop 20 = [] := List.drop_eq_nil_of_le (by omega)
        have e3 : l.take 20 = l := List.take_of_length_le (by omega)
        rw [e2, e3, pkLs_nil]
        exact .nil _
theorem rd_lnS {ce sl : Int} {stp : Nat} {mu : Int} {ts : List (List Opx)} {ps : List Int} (h1 : isI ce) (h2 : isI sl) (h3 : isU stp) (h4 : isI mu) (hc : cfgE ce sl stp mu = 0) (ho : ∀ l ∈ ts, ∀ o ∈ l, rightO o) (hp : ∀ z ∈ ps, isI z) : RdAll none (lnS ce sl stp mu ts ps) (some ⟨ce, sl, stp, mu, ts, ps⟩) := by
  refine .cons _ _ _ _ _ (.cfg ce sl stp mu h1 h2 h3 h4 hc) ?_
  have a := rd_ths ce sl stp mu ts [] ho
  have b := rd_pks ce sl stp mu ts ps.length ps [] (Nat.le_refl _) rfl hp
  exact (show RdAll _ (thLs ts) (some ⟨ce, sl, stp, mu, ts, []⟩) by simpa using a).app (by simpa using b)
theorem goes_mono {s : Rdg} {line : List UInt8} {x : Rdg} (h : Goes1 (some s) line x) : msr s ≤ msr x := by
  generalize hs : some s = st at h
  cases h with
  | cfg => cases hs
  | thr => injection hs with hs; subst hs; simp [msr]
  | op => injection hs with hs; subst hs; simp [msr]
  | pk => injection hs with hs; subst hs; simp [msr]
theorem rd_mono {s z : Option Rdg} {ls : List (List UInt8)} (h : RdAll s ls z) : ∀ x y, s = some x → z = some y → msr x ≤ msr y := by
  induction h with
  | nil s => intro x y e1 e2; rw [e1] at e2; injection e2 with e2; subst e2; exact Nat.le_refl _
  | cons s line x ls z hg hr ih =>
    intro a y e1 e2
    subst e1
    exact Nat.le_trans (goes_mono hg) (ih x y rfl e2)
theorem rt0_cfg {ce sl : Int} {stp : Nat} {mu : Int} {ts : List (List Opx)} {ps : List Int} (h : rtS ce sl stp mu ts ps = 0) : cfgE ce sl stp mu = 0 ∧ ¬ longT ts ps := by
  unfold rtS at h
  by_cases hc : cfgE ce sl stp mu ≠ 0
  · rw [if_pos hc] at h; exact absurd h hc
  · rw [if_neg hc] at h
    refine ⟨by omega, fun hl => ?_⟩
    rw [if_pos (.inl hl)] at h
    cases h
theorem sum_bound {ts : List (List Opx)} (h : ∀ l ∈ ts, l.length ≤ 4096) : (ts.map List.length).sum ≤ 4096 * ts.length := by
  induction ts with
  | nil => simp
  | cons a ts ih =>
    have h1 := ih (fun l hl => h l (by simp [hl]))
    have h2 := h a (by simp)
    simp only [List.map_cons, List.sum_cons, List.length_cons]
    omega
theorem long_msr {x : Rdg} (h : ¬ longT x.ts x.ps) : msr x ≤ 10000000 := by
  unfold longT at h
  have h1 : ∀ l ∈ x.ts, l.length ≤ 4096 := fun l hl => by
    by_cases c : 4096 < l.length
    · exact absurd (.inl ⟨l, hl, c⟩) h
    · omega
  have h2 : x.ts.length ≤ 64 := by
    by_cases c : 64 < x.ts.length
    · exact absurd (.inr (.inl c)) h
    · omega
  have h3 : x.ps.length ≤ 1048576 := by
    by_cases c : 1048576 < x.ps.length
    · exact absurd (.inr (.inr c)) h
    · omega
  have h4 := sum_bound h1
  unfold msr
  omega
theorem right_keys {o : Opx} (h : rightO o) : o.keys.length ≤ 1024 := by
  have hp := right_parts h
  cases hk : kysK o.k with
  | true => exact hp.kys hk
  | false => rw [hp.nokys hk]; simp
/-- a right script's text is not too great, and reads as the script -/
theorem bt_script {ce sl : Int} {stp : Nat} {mu : Int} {ts : List (List Opx)} {ps : List Int} (h1 : isI ce) (h2 : isI sl) (h3 : isU stp) (h4 : isI mu) (hr : rtS ce sl stp mu ts ps = 0) (ho : ∀ l ∈ ts, ∀ o ∈ l, rightO o) (hp : ∀ z ∈ ps, isI z) (hlen : (texS ce sl stp mu ts ps).length ≤ 100000000000) : BT (texS ce sl stp mu ts ps) ∧ PaR (texS ce sl stp mu ts ps) (some ⟨ce, sl, stp, mu, ts, ps⟩) 0 := by
  obtain ⟨hc, hl⟩ := rt0_cfg hr
  have hrd := rd_lnS h1 h2 h3 h4 hc ho hp
  have hln := lnS_ln ce sl stp mu ts ps
  refine ⟨⟨hlen, fun ls r hl' => ?_⟩, .ok _ _ hln hrd hl⟩
  obtain ⟨rfl, rfl⟩ := hl'.one hln
  refine ⟨fun f hf => ?_, fun i x hx => ?_⟩
  · rcases List.mem_cons.1 hf with rfl | hf
    · have := cfT_len h1 h2 h3 h4; omega
    · rcases List.mem_append.1 hf with hf | hf
      · rcases mem_ths hf with rfl | ⟨l, hl, o, ho', rfl⟩
        · decide
        · have a := textO_len (ho l hl o ho').1
          have b := right_keys (ho l hl o ho')
          omega
      · obtain ⟨q, rfl, hq, hz⟩ := mem_pks ps.length ps (Nat.le_refl _) f hf
        have := pkT_len q (fun z hz' => hp z (hz z hz'))
        omega
  · have e : lnS ce sl stp mu ts ps = (lnS ce sl stp mu ts ps).take i ++ (lnS ce sl stp mu ts ps).drop i := (List.take_append_drop _ _).symm
    rw [e] at hrd
    obtain ⟨y, a, b⟩ := hrd.pre
    have := a.one hx
    subst this
    have hm := rd_mono b _ _ rfl rfl
    have hb := long_msr (x := ⟨ce, sl, stp, mu, ts, ps⟩) hl
    have hk := sok_of (rd_good0 hx) (by omega)
    exact ⟨⟨hk.tl, hk.pl, hk.ll⟩, hk⟩
/-- what was read prints as what was read -/
def txR : Option Rdg → List UInt8
  | none => []
  | some x => texS x.ce x.sl x.stp x.mu x.ts x.ps
theorem thsT_app (a b : List (List Opx)) : thsT (a ++ b) = thsT a ++ thsT b := by simp [thsT]
theorem opsT_app (a b : List Opx) : opsT (a ++ b) = opsT a ++ opsT b := by simp [opsT]
theorem pksT_app : ∀ (n : Nat) (p l : List Int), p.length ≤ n → p.length % 20 = 0 → l ≠ [] → l.length ≤ 20 → pksT (p ++ l) = pksT p ++ (pkT l ++ [10])
  | 0, p, l, hn, _, hne, hl => by
    have : p = [] := List.eq_nil_of_length_eq_zero (by omega)
    subst this
    rw [List.nil_append, pksT_step hne, pksT_nil, List.take_of_length_le hl, List.drop_eq_nil_of_le hl, pksT_nil]
    simp
  | n + 1, p, l, hn, h20, hne, hl => by
    by_cases e : p = []
    · subst e
      rw [List.nil_append, pksT_step hne, pksT_nil, List.take_of_length_le hl, List.drop_eq_nil_of_le hl, pksT_nil]
      simp
    · have hp : 0 < p.length := List.length_pos_iff.2 e
      have hp20 : 20 ≤ p.length := by omega
      rw [pksT_step (l := p ++ l) (by simp [e]), pksT_step e, List.take_append_of_le_length hp20, List.drop_append_of_le_length hp20, pksT_app n (p.drop 20) l (by rw [List.length_drop]; omega) (by rw [List.length_drop]; omega) hne hl]
      simp
theorem goes_tx {s : Option Rdg} {line : List UInt8} {x : Rdg} (h : Goes1 s line x) : txR (some x) = txR s ++ (line ++ [10]) := by
  cases h with
  | cfg ce sl stp mu a b c d e => simp [txR, texS, thsT, pksT_nil]
  | thr ce sl stp mu ts => simp [txR, texS, pksT_nil, thsT, thT, opsT]
  | op ce sl stp mu ts l o ho =>
    simp only [txR, texS, pksT_nil, thsT_app]
    have e1 : ∀ l, thsT [l] = thT l := fun l => by simp [thsT]
    rw [e1, e1, thT, thT, opsT_app]
    simp [opsT]
  | pk ce sl stp mu ts ps l h1 h2 h3 h4 =>
    simp only [txR, texS]
    rw [pksT_app ps.length ps l (Nat.le_refl _) h1 (fun e => by rw [e] at h2; simp at h2) h3]
    simp
theorem rd_tx {s z : Option Rdg} {ls : List (List UInt8)} (h : RdAll s ls z) : txR z = txR s ++ joinL ls := by
  induction h with
  | nil s => simp [joinL]
  | cons s line x ls z hg hr ih => rw [ih, goes_tx hg, joinL_cons]; simp
theorem par_tx {t : List UInt8} {x : Rdg} {ls : List (List UInt8)} (h : LnT t ls []) (hr : RdAll none ls (some x)) : texS x.ce x.sl x.stp x.mu x.ts x.ps = t := by
  have := rd_tx hr
  rw [h.1]
  simpa [txR] using this
end Go.Proofs.YtmmaniolaljjlaaGreatDoor
