/- The document's Parse, at every text; how a text's reading ends is one. -/
import Derived.Test.YtdgagpcofghbaaaGreatDoorRuj
namespace Go.Proofs.YtdgagpcofghbaaaGreatDoor
open Go.RowKit Go.Shelf
set_option linter.unusedVariables false

/-- what lies in memory while the document's Parse goes on -/
structure PL (W : World) (lv v : Value) (ls : List (List UInt8)) (ys : List (Ax × Value)) (wr : World) : Prop where
  ar : AR W wr v ys
  lrow : wr.ownsRow 0 9 1 lv ls.length (strsRow ls)
  txt : printA (ys.map Prod.fst) = joinL (ls.take ys.length)
  good : Good (ys.map Prod.fst)
theorem PL.on {W : World} {lv v : Value} {ls : List (List UInt8)} {ys : List (Ax × Value)} {wr w2 : World} (h : PL W lv v ls ys wr) (hb : Below wr.heap.size wr w2) : PL W lv v ls ys w2 := ⟨h.ar.on hb, row_kept h.lrow (fun k hk => hb.block k (row_lt h.lrow k hk)), h.txt, h.good⟩
theorem PL.more {W wr w2 : World} {lv v v' : Value} {ls : List (List UInt8)} {ys : List (Ax × Value)} {x : Ax} {vs : Value} {l : List UInt8} {o : Obj} (h : PL W lv v ls ys wr) (hl : ls[ys.length]? = some l) (hx : lineP l = some x) (hv : wr.ownsRow 0 33 1 vs x.vals.length (u64L x.vals)) (hn : ∀ g, vs.ownBlock = some g → W.heap.size ≤ g)
    (hr : w2.ownsRow 0 36 8 v' (ys.length + 1) (accsRow ys ++ (bxA x vs).toList)) (hg : (wr.alloc o).grownBy w2 v.ownBlock) (hw : v'.ownBlock = v.ownBlock ∨ v'.ownBlock = some (wr.alloc o).heap.size) : PL W lv v' ls (ys ++ [(x, vs)]) w2 := by
  obtain ⟨a1, a2, a3⟩ := lineP_some hx
  have h1 := h.on (below_alloc wr o)
  refine ⟨h.ar.more ⟨hv, hn⟩ hr hg hw, row_kept h1.lrow (fun k hk => hg.block k (row_lt h1.lrow k hk) (fun e => by
    obtain ⟨cur, hcur⟩ := row_block h1.lrow k hk
    exact block_apart h1.ar.row hcur (by decide) e.symm)), ?_, ?_⟩
  · rw [List.length_append, List.length_singleton, List.take_add_one, hl, Option.toList, joinL_snoc, List.map_append, List.map_cons, List.map_nil, printA_snoc, h.txt, a3]
  · intro z hz
    rw [List.map_append] at hz
    rcases List.mem_append.mp hz with q | q
    · exact h.good z q
    · simp at q
      subst q
      exact ⟨a1, a2⟩
theorem row_l_slice {W : World} {v : Value} {ws : List (List UInt8)} (h : W.ownsRow 0 9 1 v ws.length (strsRow ws)) : ∃ p cap, v = .slice p ws.length cap := by
  rcases h.2 with ⟨e, h0⟩ | ⟨g, cap, cur, e, _⟩
  · exact ⟨none, 0, by rw [e, h0]⟩
  · exact ⟨_, cap, e⟩
theorem strs_cell {w : World} {p : Option Addr} {c n k : Nat} {ls : List (List UInt8)} {x : List UInt8} (h : w.ownsRow 0 9 1 (.slice p n c) ls.length (strsRow ls)) (hn : n = ls.length) (hk : k < n) (hx : ls[k]? = some x) : ∃ g, p = some ⟨g, 0, none⟩ ∧ w.cell? ⟨g, k, none⟩ = some (.string (mkS x)) := by
  rw [← hn] at h
  rcases h.2 with ⟨_, e⟩ | ⟨g, cap, cur, e, _⟩
  · omega
  · injection e with e1 e2 e3
    subst e1
    refine ⟨g, rfl, ?_⟩
    rw [World.ownsRow.cellAt h k (by omega)]
    simp [strsRow, hx]
theorem joinL_app (a b : List (List UInt8)) : joinL (a ++ b) = joinL a ++ joinL b := by simp [joinL]
theorem take_split {ls : List (List UInt8)} {i : Nat} {l : List UInt8} (h : ls[i]? = some l) : joinL ls = joinL (ls.take i) ++ (l ++ 10 :: joinL (ls.drop (i + 1))) := by
  obtain ⟨hi, rfl⟩ := List.getElem?_eq_some_iff.mp h
  conv => lhs; rw [← List.take_append_drop i ls, List.drop_eq_getElem_cons hi, joinL_app, joinL_cons]
theorem last_no {t r : List UInt8} {ls : List (List UInt8)} (e : t = joinL ls ++ r) (hr : noB 10 r) (h0 : t ≠ []) : (t[t.length - 1]? = some 10 ↔ r = []) := by
  constructor
  · intro h
    cases hr' : r with
    | nil => rfl
    | cons a b =>
      exfalso
      have hl : r.length ≠ 0 := by rw [hr']; simp
      rw [e, List.getElem?_append_right (by simp; omega)] at h
      exact hr 10 (List.mem_of_getElem? h) rfl
  · intro h
    subst h
    rw [List.append_nil] at e
    rcases List.eq_nil_or_concat ls with rfl | ⟨l', x, rfl⟩
    · exact absurd (by rw [e]; rfl) h0
    · rw [e, List.concat_eq_append, joinL_snoc, ← List.append_assoc]
      simp
/-- how a text's reading ends is one -/
theorem ph_bad_split {ys zs : List Ax} {r q : List UInt8} (hy : Good ys) (hz : Good zs) (hr : Bad r) (hq : Bad q) : printA ys ++ r = printA zs ++ q → ys.length = zs.length := by
  induction ys generalizing zs with
  | nil =>
    intro e
    cases zs with
    | nil => rfl
    | cons z zs =>
      exfalso
      rw [printA_cons] at e
      have e' : r = lineA z ++ 10 :: (printA zs ++ q) := by simpa [printA] using e
      obtain ⟨h0, h⟩ := hr
      rcases h with h | ⟨a, r', ha, e2, hn⟩
      · exact h 10 (by rw [e']; simp) rfl
      · rw [e2] at e'
        obtain ⟨e3, _⟩ := noB_cut ha (line_no z) e'
        rw [e3, lineP_line hz.head.1 hz.head.2] at hn
        cases hn
  | cons y ys ih =>
    intro e
    cases zs with
    | nil =>
      exfalso
      rw [printA_cons] at e
      have e' : q = lineA y ++ 10 :: (printA ys ++ r) := by simpa [printA] using e.symm
      obtain ⟨h0, h⟩ := hq
      rcases h with h | ⟨a, r', ha, e2, hn⟩
      · exact h 10 (by rw [e']; simp) rfl
      · rw [e2] at e'
        obtain ⟨e3, _⟩ := noB_cut ha (line_no y) e'
        rw [e3, lineP_line hy.head.1 hy.head.2] at hn
        cases hn
    | cons z zs =>
      rw [printA_cons, printA_cons] at e
      have e' : lineA y ++ 10 :: (printA ys ++ r) = lineA z ++ 10 :: (printA zs ++ q) := by simpa using e
      obtain ⟨_, e2⟩ := noB_cut (line_no y) (line_no z) e'
      rw [List.length_cons, List.length_cons, ih hy.tail hz.tail e2]
theorem ph_one {t : List UInt8} {xs zs : List Ax} {er ln er' ln' : Nat} (h : PH t xs er ln) (k : PH t zs er' ln') : xs = zs ∧ er = er' ∧ ln = ln' := by
  rcases h with ⟨e1, e2, e3, e4⟩ | ⟨e1, e2, ys, r, e3, e4, e5, e6⟩
  · rw [e3] at k
    obtain ⟨a, b, c⟩ := ph_right k e4
    exact ⟨a.symm, by omega, by omega⟩
  · rcases k with ⟨k1, k2, k3, k4⟩ | ⟨k1, k2, zs', q, k3, k4, k5, k6⟩
    · exfalso
      rw [k3] at e4
      obtain ⟨l', e7, e8⟩ := printA_split e5 k4 e4
      exact bad_print (fun x hx => k4 x (by rw [e7]; simp [hx])) e6 e8
    · have := ph_bad_split e5 k5 e6 k6 (e4.symm.trans k4)
      exact ⟨e2.trans k2.symm, by omega, by omega⟩

set_option maxRecDepth 100000 in
set_option maxHeartbeats 8000000 in
theorem dparse_any (t : List UInt8) (ht : t.length ≤ 1048576) (W : World) (T : Tb W) :
    Calls Tryz.prog 9 #[.string (mkS t)] W fun e W' => (∃ (v : Value) (er ln : Nat) (ys : List (Ax × Value)), e = .returned (.tuple #[v, .int .i64 (er : Int), .int .i64 (ln : Int)]) ∧ AR W W' v ys ∧ PH t (ys.map Prod.fst) er ln) := by
  obtain ⟨i0, hi, hz0, hz1, hz2⟩ := info_parts infoAx
  have hln := r_lines t (by omega) W
  have hix := fun n hn => idx_str t n hn 10
  obtain ⟨s, hs⟩ : ∃ s, s = mkS t := ⟨_, rfl⟩
  rw [← hs] at hln hix ⊢
  have HSZ : Hid (s.size = t.length) := keepH (by rw [hs, mkS_size])
  have HIX := keepH hix
  have HT := keepH T
  clear hs T hix
  go_enter Tryz.func9, Tryz.ntmps9
  go_wp2_with fail
  refine hln.mono ?_
  rintro e w1 ⟨lv, rfl, ls, hR, hL⟩
  have HLL := keepH (ln_len hL)
  obtain ⟨f, r0, hL1, _, hL3, hL4⟩ := hL
  rw [List.take_length] at hL1
  have HTX : Hid (t = joinL ls ++ r0 ∧ noB 10 r0 ∧ ∀ x ∈ ls, noB 10 x) := keepH ⟨hL1, hL3, hL4⟩
  obtain ⟨lp, lc, rfl⟩ := row_l_slice hR.row
  obtain ⟨n, hn⟩ : ∃ n, n = ls.length := ⟨_, rfl⟩
  have H0 : Hid (PL W (.slice lp n lc) (.slice none 0 0) ls [] w1) := keepH ⟨(AR.start W).on (chgBel hR.chg), by rw [hn]; exact hR.row, by simp [printA, joinL], fun x hx => by simp at hx⟩
  rw [← hn]
  have hn2 : n ≤ 1048576 := by have := HLL.out.1; omega
  have HN := keepH hn
  clear hln hR hL1 hL3 hL4 hn
  go_wp2_with fail
  go_loopw [6, 7, 8, 9] (fun s6 s7 s8 s9 wr => ∃ (i : Nat) (ys : List (Ax × Value)), s7 = .int .i64 (i : Int) ∧ i ≤ n ∧ Hid (PL W (.slice lp n lc) s6 ls ys wr ∧ ys.length = i)) (fun _ s7 _ _ _ => n - (intOf s7).toNat)
  case atStart => exact ⟨0, [], rfl, by omega, keepH ⟨H0.out, rfl⟩⟩
  case round =>
    clear H0
    obtain ⟨i, ys, rfl, hin, HI⟩ := hrel
    by_cases hlt : i < n
    · have q1 : (i : Int) < (n : Int) := by omega
      have q0 : (0 : Int) ≤ (i : Int) := by omega
      obtain ⟨l, hl⟩ : ∃ l, ls[i]? = some l := ⟨_, List.getElem?_eq_getElem (by rw [← HN.out]; exact hlt)⟩
      obtain ⟨g, rfl, c1⟩ := strs_cell HI.out.1.lrow HN.out hlt hl
      have hpa := d_read l (by have := HLL.out.2 l (List.mem_of_getElem? hl); omega) wr (HT.out.on HI.out.1.ar.bel)
      have HLI := keepH hl
      obtain ⟨sl, hsl⟩ : ∃ s, s = mkS l := ⟨_, rfl⟩
      rw [← hsl] at c1 hpa
      have HBT : Hid (∀ e, lineP l = none → e = l ++ 10 :: joinL (ls.drop (i + 1)) ++ r0 → Bad e) := keepH (fun e h1 h2 => ⟨by rw [h2]; simp, Or.inr ⟨l, joinL (ls.drop (i + 1)) ++ r0, HTX.out.2.2 l (List.mem_of_getElem? HLI.out), by rw [h2]; simp, h1⟩⟩)
      have qw : wrap64 ((i : Int) + 1) = (i : Int) + 1 := by unfold wrap64; omega
      clear hl hsl
      go_wp2_with fail
      refine hpa.mono ?_
      rintro e w3 ⟨v, rfl, hv⟩
      obtain ⟨cs, rr, rfl, hP⟩ := hv
      have H3 := keepH (HI.out.1.on hP.bel)
      have HYL := keepH HI.out.2
      obtain ⟨nl, hnl⟩ : ∃ nl, nl = ys.length := ⟨_, rfl⟩
      obtain ⟨p6, c6, h6⟩ := row_a_slice H3.out.ar.row
      rw [← hnl] at h6
      have HNL := keepH hnl
      have hnl2 : nl ≤ 100000000 := by rw [hnl, HYL.out]; omega
      cases rr
      · have HBAD : Hid (PH t [] 52 (i + 1)) := keepH (Or.inr ⟨rfl, rfl, ys.map Prod.fst, l ++ 10 :: joinL (ls.drop (i + 1)) ++ r0, by rw [List.length_map, HYL.out], by
          rw [HI.out.1.txt, HYL.out, HTX.out.1, take_split HLI.out]; simp, HI.out.1.good, HBT.out _ (by
          cases hq : lineP l with
          | none => rfl
          | some x => have := (hP.yes x hq).1; cases this) rfl⟩)
        obtain ⟨x, vp, vn, vc, rfl⟩ := hP.ex
        clear hP hpa hnl
        obtain ⟨xth, xk, xad, xa, xb, xvals, xgot, xok⟩ := x
        simp only
        subst h6
        clear hnl2
        go_wp2_with fail
        go_ret3
        first | refine ⟨.slice none 0 0, 52, i + 1, by simp, [], ?_, HBAD.out⟩ | refine ⟨.slice none 0 0, 52, i + 1, [], by simp, ?_, HBAD.out⟩
        exact ⟨below_chain H3.out.ar.bel (below_alloc _ _), World.ownsRow_nil _ _ _ _, fun b e => by simp [Value.ownBlock] at e, fun i y h => by simp at h⟩
      · obtain ⟨x, hx⟩ : ∃ x, lineP l = some x := by
          cases hq : lineP l with
          | none => have := hP.no hq; cases this
          | some x => exact ⟨x, rfl⟩
        obtain ⟨_, vs, rfl, hrow, hnew⟩ := hP.yes x hx
        obtain ⟨vp, vc, hvs⟩ := row_u_slice hrow
        subst hvs
        have HROW : Hid (w3.ownsRow 0 33 1 (.slice vp x.vals.length vc) x.vals.length (u64L x.vals) ∧ ∀ g, (Value.slice vp x.vals.length vc).ownBlock = some g → W.heap.size ≤ g) := keepH ⟨hrow, fun g hg => Nat.le_trans HI.out.1.ar.bel.size (hnew g hg)⟩
        have HX := keepH hx
        clear hP hpa hnl hrow hnew hx
        obtain ⟨xth, xk, xad, xa, xb, xvals, xgot, xok⟩ := x
        obtain ⟨vn, hvn⟩ : ∃ vn, vn = xvals.length := ⟨_, rfl⟩
        simp only at HROW ⊢
        rw [← hvn] at HROW ⊢
        have HVN := keepH hvn
        clear hvn
        subst h6
        obtain ⟨w4, hw4⟩ : ∃ w4, w4 = w3.alloc (.cells #[.int .i64 xth, .int .u8 (xk : Int), .int .u64 (xad : Int), .int .u64 (xa : Int), .int .u64 (xb : Int), .slice vp vn vc, .int .u64 (xgot : Int), .bool xok] 36) := ⟨_, rfl⟩
        obtain ⟨ab, hab⟩ : ∃ ab, ab = w3.heap.size := ⟨_, rfl⟩
        have C4 : Below w3.heap.size w3 w4 := by rw [hw4]; exact below_alloc _ _
        have X4 : w4.heap[ab]? = some (.cells #[.int .i64 xth, .int .u8 (xk : Int), .int .u64 (xad : Int), .int .u64 (xa : Int), .int .u64 (xb : Int), .slice vp vn vc, .int .u64 (xgot : Int), .bool xok] 36 (0, 0)) := by rw [hw4, hab]; exact heap_alloc_new _ _
        have H4 := keepH (H3.out.on C4)
        have HROW4 : Hid (w4.ownsRow 0 33 1 (.slice vp vn vc) vn (u64L xvals) ∧ ∀ g, (Value.slice vp vn vc).ownBlock = some g → W.heap.size ≤ g) := keepH ⟨row_kept HROW.out.1 (fun k hk => C4.block k (row_lt HROW.out.1 k hk)), HROW.out.2⟩
        have b0 : w4.cell? ⟨ab, 0, none⟩ = some (.int .i64 xth) := cell_of X4 0
        have b1 : w4.cell? ⟨ab, 1, none⟩ = some (.int .u8 (xk : Int)) := cell_of X4 1
        have b2 : w4.cell? ⟨ab, 2, none⟩ = some (.int .u64 (xad : Int)) := cell_of X4 2
        have b3 : w4.cell? ⟨ab, 3, none⟩ = some (.int .u64 (xa : Int)) := cell_of X4 3
        have b4 : w4.cell? ⟨ab, 4, none⟩ = some (.int .u64 (xb : Int)) := cell_of X4 4
        have b5 : w4.cell? ⟨ab, 5, none⟩ = some (.slice vp vn vc) := cell_of X4 5
        have b6 : w4.cell? ⟨ab, 6, none⟩ = some (.int .u64 (xgot : Int)) := cell_of X4 6
        have b7 : w4.cell? ⟨ab, 7, none⟩ = some (.bool xok) := cell_of X4 7
        clear C4 X4
        go_upto_region 7 with fail
        rw [← hw4, ← hab]
        clear hw4 hab
        obtain ⟨w5, hw5⟩ : ∃ w5, w5 = w4.alloc (.cells #[.int .i64 xth, .int .u8 (xk : Int), .int .u64 (xad : Int), .int .u64 (xa : Int), .int .u64 (xb : Int), .slice vp vn vc, .int .u64 (xgot : Int), .bool xok] 36) := ⟨_, rfl⟩
        have HRW : Hid (w5.ownsRow 0 36 8 (.slice p6 nl c6) nl (accsRow ys)) := by rw [hw5]; have := H4.out.ar.row; rw [← HNL.out] at this; exact this.alloc _
        have HX5 : Hid (∀ j z, [Value.int .i64 xth, .int .u8 (xk : Int), .int .u64 (xad : Int), .int .u64 (xa : Int), .int .u64 (xb : Int), .slice vp vn vc, .int .u64 (xgot : Int), .bool xok][j]? = some z → w5.cell? ((⟨w4.heap.size, 0, none⟩ : Addr).add j) = some z) := by rw [hw5]; exact cells_newR w4 _ rfl #[.int .i64 xth, .int .u8 (xk : Int), .int .u64 (xad : Int), .int .u64 (xa : Int), .int .u64 (xb : Int), .slice vp vn vc, .int .u64 (xgot : Int), .bool xok] 36
        have HW5 := keepH hw5
        clear hw5
        go_wp2_with (first | (at_builtin; rw [← HW5.out]; refine wpList_append_own_at _ rfl _ _ 22 rfl 0 36 i0 (.agg (bxA ax0 (.slice none 0 0))) 8 80 Tryz.underlying22 hi hz0 hz1 hz2 rfl (by decide) (.slice p6 nl c6) nl (accsRow ys) rfl HRW.out ⟨w4.heap.size, 0, none⟩ 1 1 [.int .i64 xth, .int .u8 (xk : Int), .int .u64 (xad : Int), .int .u64 (xa : Int), .int .u64 (xb : Int), .slice vp vn vc, .int .u64 (xgot : Int), .bool xok] rfl rfl HX5.out (by intro z hz; simp at hz; rcases hz with rfl | rfl | rfl | rfl | rfl | rfl | rfl | rfl <;> rfl) (by unfold maxLen; omega) (by omega) (Nat.zero_le _) ?_; intro v2 w6 r1 r2 r3 r4; have R1 := keepH r1; have R2 := keepH r2; have R4 := keepH r4; clear r1 r2 r3 r4) | go_in)
        have HM : Hid (PL W (.slice (some ⟨g, 0, none⟩) n lc) v2 ls (ys ++ [(⟨xth, xk, xad, xa, xb, xvals, xgot, xok⟩, .slice vp vn vc)]) w6) := keepH (H4.out.more (o := .cells #[.int .i64 xth, .int .u8 (xk : Int), .int .u64 (xad : Int), .int .u64 (xa : Int), .int .u64 (xb : Int), .slice vp vn vc, .int .u64 (xgot : Int), .bool xok] 36) (by rw [HYL.out]; exact HLI.out) HX.out (by simp only; rw [← HVN.out]; exact HROW4.out.1) HROW4.out.2 (by rw [← HNL.out]; exact R1.out) (by rw [← HW5.out]; exact R2.out) (by rw [← HW5.out]; exact R4.out))
        go_roundw
        case rel => exact ⟨i + 1, _, by first | rfl | go_num, by omega, keepH ⟨HM.out, by simp [HYL.out]⟩⟩
        case measure => simp [intOf]; omega
    · obtain rfl : i = n := by omega
      have q1 : ¬ (i : Int) < (i : Int) := by omega
      have HALL : Hid (printA (ys.map Prod.fst) = joinL ls) := keepH (by rw [HI.out.1.txt, HI.out.2, HN.out, List.take_length])
      have HYN : Hid (ys.length = i) := keepH HI.out.2
      have qw : wrap64 ((i : Int) + 1) = (i : Int) + 1 := by unfold wrap64; omega
      by_cases h0 : t = []
      · have HOK : Hid (PH t (ys.map Prod.fst) 0 0) := keepH (Or.inl ⟨rfl, rfl, by
          have e := HTX.out.1
          have : r0 = [] := by
            rw [h0] at e
            have := congrArg List.length e
            rw [List.length_append, List.length_nil] at this
            exact List.eq_nil_of_length_eq_zero (by omega)
          rw [this, List.append_nil] at e
          rw [HALL.out, ← e], HI.out.1.good⟩)
        have q2 : ¬ (0 : Int) < (s.size : Int) := by rw [HSZ.out, h0]; simp
        clear h0
        go_wp2_with fail
        go_ret3
        first | exact ⟨u6, 0, 0, rfl, ys, HI.out.1.ar, HOK.out⟩ | exact ⟨u6, 0, 0, ys, rfl, HI.out.1.ar, HOK.out⟩
      · have hl0 : 0 < t.length := List.length_pos_iff.mpr h0
        have hlast := last_no HTX.out.1 HTX.out.2.1 h0
        obtain ⟨x, hx, hxi⟩ := HIX.out (t.length - 1) (by omega)
        obtain ⟨m, hm⟩ : ∃ m, m = t.length - 1 := ⟨_, rfl⟩
        rw [← hm] at hlast hx hxi
        have q2 : (0 : Int) < (s.size : Int) := by rw [HSZ.out]; omega
        have q3 : IntKind.i64.wrap ((s.size : Int) - 1) = (m : Int) := by rw [HSZ.out, IntKind.wrap_i64]; omega
        have q4 : wrap64 ((s.size : Int) - 1) = (m : Int) := by rw [HSZ.out]; unfold wrap64; omega
        have q5 : (0 : Int) ≤ (m : Int) := by omega
        have q6 : (m : Int) < (s.size : Int) := by rw [HSZ.out]; omega
        by_cases hr : r0 = []
        · have q7 : ((x : Nat) : Int) = 10 := by
            have := hxi.mpr (hlast.mpr hr)
            rw [this]; rfl
          rw [q7] at hx
          have HOK : Hid (PH t (ys.map Prod.fst) 0 0) := keepH (Or.inl ⟨rfl, rfl, by
            have e := HTX.out.1
            rw [hr, List.append_nil] at e
            rw [HALL.out, ← e], HI.out.1.good⟩)
          clear hm hxi hlast q7 hr h0 hl0
          go_wp2_with fail
          go_ret3
          first | exact ⟨u6, 0, 0, rfl, ys, HI.out.1.ar, HOK.out⟩ | exact ⟨u6, 0, 0, ys, rfl, HI.out.1.ar, HOK.out⟩
        · have q7 : (((x : Nat) : Int) != 10) = true := by
            simp only [bne_iff_ne, ne_eq]
            intro q
            exact hr (hlast.mp (hxi.mp (by rw [show (10 : UInt8).toNat = 10 from rfl]; omega)))
          have q8 : ¬ ((x : Nat) : Int) = 10 := by simpa using q7
          have HBAD : Hid (PH t [] 52 (i + 1)) := keepH (Or.inr ⟨rfl, rfl, ys.map Prod.fst, r0, by rw [List.length_map, HYN.out], by rw [HALL.out]; exact HTX.out.1, HI.out.1.good, hr, Or.inl HTX.out.2.1⟩)
          clear hm hxi hlast hr h0 hl0
          go_wp2_with fail
          go_ret3
          first | refine ⟨.slice none 0 0, 52, i + 1, by simp, [], ?_, HBAD.out⟩ | refine ⟨.slice none 0 0, 52, i + 1, [], by simp, ?_, HBAD.out⟩
          exact ⟨HI.out.1.ar.bel, World.ownsRow_nil _ _ _ _, fun b e => by simp [Value.ownBlock] at e, fun i y h => by simp at h⟩
end Go.Proofs.YtdgagpcofghbaaaGreatDoor
