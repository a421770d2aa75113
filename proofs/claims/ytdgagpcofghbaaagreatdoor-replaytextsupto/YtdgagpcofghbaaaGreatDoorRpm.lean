/- Parse of the program, at every text. -/
import Derived.Test.YtdgagpcofghbaaaGreatDoorRpl
namespace Go.Proofs.YtdgagpcofghbaaaGreatDoor
open Go.RowKit Go.Shelf
set_option linter.unusedVariables false

/-- accesses, each with the slice of its values, as cells in a row -/
def accsRow (ys : List (Ax × Value)) : List Value := ys.flatMap (fun y => (bxA y.1 y.2).toList)
theorem accsRow_snoc (ys : List (Ax × Value)) (y : Ax × Value) : accsRow (ys ++ [y]) = accsRow ys ++ (bxA y.1 y.2).toList := by simp [accsRow]
theorem accsRow_length (l : List (Ax × Value)) : (accsRow l).length = l.length * 8 := by
  induction l with
  | nil => rfl
  | cons x r ih => simp only [accsRow, List.flatMap_cons, List.length_append, List.length_cons] at ih ⊢; rw [ih]; simp; omega
theorem accsRow_get (l : List (Ax × Value)) (j f : Nat) (hf : f < 8) : (accsRow l)[j * 8 + f]? = (l[j]?).bind fun x => (bxA x.1 x.2)[f]? := by
  induction l generalizing j with
  | nil => simp [accsRow]
  | cons x r ih =>
    have hx : (bxA x.1 x.2).toList.length = 8 := rfl
    cases j with
    | zero => simp only [accsRow, List.flatMap_cons]; rw [List.getElem?_append_left (by rw [hx]; omega)]; simp
    | succ j =>
      have e := ih j
      simp only [accsRow, List.flatMap_cons] at e ⊢
      rw [List.getElem?_append_right (by rw [hx]; omega), hx, show (j + 1) * 8 + f - 8 = j * 8 + f by omega, e]
      simp
theorem infoAx : (Tryz.prog.info? 36).map (fun i => (i.zero, i.size, i.bytes)) = some (some (.agg (bxA ax0 (.slice none 0 0))), 8, 80) := by kernel_rfl
/-- a row of accesses of one's own -/
structure AR (W wr : World) (v : Value) (ys : List (Ax × Value)) : Prop where
  bel : Below W.heap.size W wr
  row : wr.ownsRow 0 36 8 v ys.length (accsRow ys)
  new : ∀ b, v.ownBlock = some b → W.heap.size ≤ b
  vals : ∀ (i : Nat) y, ys[i]? = some y → wr.ownsRow 0 33 1 y.2 y.1.vals.length (u64L y.1.vals) ∧ ∀ g, y.2.ownBlock = some g → W.heap.size ≤ g
theorem AR.on {W wr w2 : World} {v : Value} {ys : List (Ax × Value)} (h : AR W wr v ys) (hb : Below wr.heap.size wr w2) : AR W w2 v ys :=
  ⟨below_chain h.bel hb, row_kept h.row (fun k hk => hb.block k (row_lt h.row k hk)), h.new, fun i y hy => ⟨row_kept (h.vals i y hy).1 (fun k hk => hb.block k (row_lt (h.vals i y hy).1 k hk)), (h.vals i y hy).2⟩⟩
theorem AR.more {W wr w2 : World} {v v' : Value} {ys : List (Ax × Value)} {y : Ax × Value} {o : Obj} (h : AR W wr v ys) (hy : wr.ownsRow 0 33 1 y.2 y.1.vals.length (u64L y.1.vals) ∧ ∀ g, y.2.ownBlock = some g → W.heap.size ≤ g)
    (hr : w2.ownsRow 0 36 8 v' (ys.length + 1) (accsRow ys ++ (bxA y.1 y.2).toList)) (hg : (wr.alloc o).grownBy w2 v.ownBlock) (hw : v'.ownBlock = v.ownBlock ∨ v'.ownBlock = some (wr.alloc o).heap.size) : AR W w2 v' (ys ++ [y]) := by
  have h1 := h.on (below_alloc wr o)
  have keep : ∀ (u : Value) (n : Nat) (l : List Value), (wr.alloc o).ownsRow 0 33 1 u n l → w2.ownsRow 0 33 1 u n l := fun u n l hu =>
    row_kept hu (fun k hk => hg.block k (row_lt hu k hk) (fun e => by
      obtain ⟨cur, hcur⟩ := row_block hu k hk
      exact block_apart h1.row hcur (by decide) e.symm))
  have hy' : (wr.alloc o).ownsRow 0 33 1 y.2 y.1.vals.length (u64L y.1.vals) := hy.1.alloc o
  refine ⟨h1.bel.grown hg h1.bel.size (fun b e => h.new b e), by rw [accsRow_snoc, List.length_append]; exact hr, ?_, ?_⟩
  · intro b hb
    rcases hw with e1 | e1
    · rw [e1] at hb; exact h.new b hb
    · rw [e1] at hb
      simp at hb
      have := h.bel.size
      omega
  · intro i z hz
    by_cases c : i < ys.length
    · rw [List.getElem?_append_left c] at hz
      exact ⟨keep _ _ _ (h1.vals i z hz).1, (h.vals i z hz).2⟩
    · have hi : i = ys.length := by
        have := (List.getElem?_eq_some_iff.1 hz).1
        simp at this
        omega
      subst hi
      simp at hz
      subst hz
      exact ⟨keep _ _ _ hy', hy.2⟩
theorem AR.start (W : World) : AR W W (.slice none 0 0) [] := ⟨Below.refl _ _, World.ownsRow_nil _ _ _ _, fun b e => by simp [Value.ownBlock] at e, fun i y h => by simp at h⟩
theorem URd.of_row {W : World} {p : Option Addr} {n c : Nat} {us : List Nat} (h : W.ownsRow 0 33 1 (.slice p n c) us.length (u64L us)) : URd W p us := by
  have hc := fun g (hg : (Value.slice p n c).ownBlock = some g) => h.cells (g := g) hg
  have hl := fun k hk => row_lt h k hk
  rcases h.2 with ⟨hv, h0⟩ | ⟨g, cap, cur, hv, _⟩
  · exact Or.inl (List.eq_nil_of_length_eq_zero (by simpa using h0))
  · injection hv with e1 e2 e3
    subst e1
    refine Or.inr ⟨g, 0, rfl, hl g rfl, fun i x hx => ?_⟩
    have e := hc g rfl i (.int .u64 (x : Int)) (by unfold u64L; rw [List.getElem?_map, hx]; rfl)
    rw [show (⟨g, 0, none⟩ : Addr).add i = ⟨g, i, none⟩ by unfold Addr.add; split <;> simp_all] at e
    rw [Nat.zero_add]
    exact e
theorem row_u_slice {W : World} {v : Value} {us : List Nat} (h : W.ownsRow 0 33 1 v us.length (u64L us)) : ∃ p c, v = .slice p us.length c := by
  rcases h.2 with ⟨hv, h0⟩ | ⟨g, cap, cur, hv, _⟩
  · exact ⟨none, 0, by rw [hv, h0]⟩
  · exact ⟨_, _, hv⟩
theorem row_a_slice {W : World} {v : Value} {ys : List (Ax × Value)} (h : W.ownsRow 0 36 8 v ys.length (accsRow ys)) : ∃ p c, v = .slice p ys.length c := by
  rcases h.2 with ⟨hv, h0⟩ | ⟨g, cap, cur, hv, _⟩
  · exact ⟨none, 0, by rw [hv, h0]⟩
  · exact ⟨_, _, hv⟩
theorem AR.reads {W wr : World} {p : Option Addr} {n c : Nat} {ys : List (Ax × Value)} (h : AR W wr (.slice p n c) ys) : ARd wr p (ys.map Prod.fst) := by
  have hr := h.row
  have hc := fun g (hg : (Value.slice p n c).ownBlock = some g) => hr.cells (g := g) hg
  have hl := fun k hk => row_lt hr k hk
  rcases hr.2 with ⟨hv, h0⟩ | ⟨g, cap, cur, hv, _⟩
  · refine Or.inl ?_
    rw [List.eq_nil_of_length_eq_zero (show ys.length = 0 by simpa using h0)]
    rfl
  · injection hv with e1 e2 e3
    subst e1
    refine Or.inr ⟨g, 0, rfl, hl g rfl, fun i x hx => ?_⟩
    rw [List.getElem?_map] at hx
    obtain ⟨y, hy, rfl⟩ := Option.map_eq_some_iff.mp hx
    obtain ⟨hv1, _⟩ := h.vals i y hy
    obtain ⟨vp, vc, hvs⟩ := row_u_slice hv1
    refine ⟨vp, vc, fun j u hj => ?_, ?_⟩
    · have hj8 : j < 8 := by
        have := (Array.getElem?_eq_some_iff.1 hj).1
        simpa using this
      have e := hc g rfl (i * 8 + j) u (by rw [accsRow_get _ _ _ hj8, hy]; simp only [Option.bind_some]; rw [hvs]; exact hj)
      rw [show (⟨g, 0, none⟩ : Addr).add (i * 8 + j) = ⟨g, i * 8 + j, none⟩ by unfold Addr.add; split <;> simp_all] at e
      rw [Nat.zero_add]
      exact e
    · rw [hvs] at hv1
      exact URd.of_row hv1

def Bad (r : List UInt8) : Prop := r ≠ [] ∧ (noB 10 r ∨ ∃ l r', noB 10 l ∧ r = l ++ 10 :: r' ∧ lineP l = none)
def Good (xs : List Ax) : Prop := ∀ x ∈ xs, RightA x ∧ x.Ok
/-- how the reading of a text ends -/
def PH (t : List UInt8) (xs : List Ax) (er ln : Nat) : Prop :=
  (er = 0 ∧ ln = 0 ∧ t = printA xs ∧ Good xs) ∨ (er = 52 ∧ xs = [] ∧ ∃ ys r, ln = ys.length + 1 ∧ t = printA ys ++ r ∧ Good ys ∧ Bad r)
theorem printA_ge (l : List Ax) : l.length ≤ (printA l).length := by
  induction l with
  | nil => simp
  | cons s l ih =>
    rw [printA_cons, List.length_append, List.length_cons, List.length_cons]
    omega
def strN : Value → Nat
  | .string s => s.size
  | _ => 0
/-- what lies in memory while Parse goes on -/
structure PM (W : World) (tb : Nat) (t : List UInt8) (v : Value) (ys : List (Ax × Value)) (r : List UInt8) (wr : World) : Prop where
  ar : AR W wr v ys
  frm : IsForms wr tb
  txt : t = printA (ys.map Prod.fst) ++ r
  good : Good (ys.map Prod.fst)
  nt : W.heap.size ≤ tb
theorem PM.on {W : World} {tb : Nat} {t : List UInt8} {v : Value} {ys : List (Ax × Value)} {r : List UInt8} {wr w2 : World} (h : PM W tb t v ys r wr) (hb : Below wr.heap.size wr w2) : PM W tb t v ys r w2 := ⟨h.ar.on hb, h.frm.on hb, h.txt, h.good, h.nt⟩
theorem PM.len {W : World} {tb : Nat} {t : List UInt8} {v : Value} {ys : List (Ax × Value)} {r : List UInt8} {wr : World} (h : PM W tb t v ys r wr) : ys.length ≤ t.length := by
  have a := printA_ge (ys.map Prod.fst)
  have b := congrArg List.length h.txt
  rw [List.length_append] at b
  rw [List.length_map] at a
  omega
theorem PM.more {W wr w2 : World} {tb : Nat} {t : List UInt8} {v v' : Value} {ys : List (Ax × Value)} {x : Ax} {vs : Value} {l r : List UInt8} {o : Obj} (h : PM W tb t v ys (l ++ 10 :: r) wr) (hx : lineP l = some x) (hv : wr.ownsRow 0 33 1 vs x.vals.length (u64L x.vals)) (hn : ∀ g, vs.ownBlock = some g → W.heap.size ≤ g)
    (hr : w2.ownsRow 0 36 8 v' (ys.length + 1) (accsRow ys ++ (bxA x vs).toList)) (hg : (wr.alloc o).grownBy w2 v.ownBlock) (hw : v'.ownBlock = v.ownBlock ∨ v'.ownBlock = some (wr.alloc o).heap.size) : PM W tb t v' (ys ++ [(x, vs)]) r w2 := by
  obtain ⟨a1, a2, a3⟩ := lineP_some hx
  have hf := h.frm.on (below_alloc wr o)
  refine ⟨h.ar.more ⟨hv, hn⟩ hr hg hw, (hg.block tb (lt_of hf) (fun e => block_apart (h.ar.on (below_alloc wr o)).row hf (by decide) e.symm)).trans hf, ?_, ?_, h.nt⟩
  · rw [h.txt, List.map_append, List.map_cons, List.map_nil, printA_snoc, a3]
    simp
  · intro z hz
    rw [List.map_append] at hz
    rcases List.mem_append.mp hz with q | q
    · exact h.good z q
    · simp at q
      subst q
      exact ⟨a1, a2⟩

set_option maxRecDepth 100000 in
set_option maxHeartbeats 4000000 in
theorem parse_any (t : List UInt8) (ht : t.length ≤ 100000000) (W : World) (T : Tb W) :
    Calls Tryz.prog 8 #[.string (mkS t)] W fun e W' => (∃ (v : Value) (er ln : Nat) (ys : List (Ax × Value)), e = .returned (.tuple #[v, .int .i64 (er : Int), .int .i64 (ln : Int)]) ∧ AR W W' v ys ∧ PH t (ys.map Prod.fst) er ln) := by
  obtain ⟨i0, hi, hz0, hz1, hz2⟩ := info_parts infoAx
  have hfo := f_forms W
  obtain ⟨tb, htb⟩ : ∃ tb, tb = W.heap.size := ⟨_, rfl⟩
  obtain ⟨s, hs⟩ : ∃ s, s = mkS t := ⟨_, rfl⟩
  rw [← hs, ]
  have HS := keepH hs
  have HT := keepH T
  have HTB := keepH htb
  clear hs T
  go_enter Tryz.func8, Tryz.ntmps8
  go_wp2_with fail
  refine hfo.mono ?_
  rintro e w1 ⟨rfl, hF1, hs1, B1⟩
  rw [← htb] at hF1 ⊢
  have H0 : Hid (PM W tb t (.slice none 0 0) [] t w1) := keepH ⟨(AR.start W).on B1, hF1, by simp [printA], fun x hx => by simp at hx, by rw [htb]; exact Nat.le_refl _⟩
  clear hF1 hs1 B1 hfo htb
  go_wp2_with fail
  go_loopw [6, 7, 8, 9, 10, 11, 12] (fun s6 s7 s8 s9 s10 s11 s12 wr => ∃ (ys : List (Ax × Value)) (r : List UInt8), s7 = .string (mkS r) ∧ r.length ≤ t.length ∧ ys.length ≤ t.length ∧ Hid (PM W tb t s6 ys r wr)) (fun _ s7 _ _ _ _ _ _ => strN s7)
  case atStart => exact ⟨[], t, by rw [HS.out], by omega, by simp, H0⟩
  case round =>
    obtain ⟨ys, r, rfl, hrl, hyl, HI⟩ := hrel
    by_cases hr0 : r = []
    · subst hr0
      go_wp2_with fail
      go_ret3
      exact ⟨u6, 0, 0, ys, rfl, HI.out.ar, Or.inl ⟨rfl, rfl, by have := HI.out.txt; simpa using this, HI.out.good⟩⟩
    · have hq : ((mkS r).toList == []) = false := by rw [mkS_toList]; cases r with | nil => exact absurd rfl hr0 | cons x l => rfl
      have hq2 : ¬ (mkS r).toList = [] := by rw [mkS_toList]; exact hr0
      rcases ix_cases 10 r with hno | ⟨l, r', hl, hlr⟩
      · have hcut := cut_none r hno wr
        have hpa := fun w' (hb : Below wr.heap.size wr w') => parse_line r (by omega) tb w' (HI.out.frm.on hb) (HT.out.on (below_chain HI.out.ar.bel hb))
        obtain ⟨sr, hsr⟩ : ∃ s, s = mkS r := ⟨_, rfl⟩
        rw [← hsr] at hcut hpa hq hq2 ⊢
        have HPA := keepH hpa
        have HBAD : Hid (Bad r) := keepH ⟨hr0, Or.inl hno⟩
        clear hsr hpa hno hr0
        go_wp2_with fail
        refine hcut.mono ?_
        rintro e w2 ⟨rfl, C2⟩
        have hpa := HPA.out w2 C2
        have H2 := keepH (HI.out.on C2)
        clear C2 hcut
        go_wp2_with fail
        refine hpa.mono ?_
        rintro e w3 ⟨v, rfl, hv⟩
        obtain ⟨cs, rr, rfl, hP⟩ := hv
        obtain ⟨x, vp, vn, vc, rfl⟩ := hP.ex
        have H3 := keepH (H2.out.on hP.bel)
        clear hP hpa
        obtain ⟨xth, xk, xad, xa, xb, xvals, xgot, xok⟩ := x
        simp only
        obtain ⟨nl, hnl⟩ : ∃ nl, nl = ys.length := ⟨_, rfl⟩
        obtain ⟨p6, c6, h6⟩ := row_a_slice H3.out.ar.row
        rw [← hnl] at h6
        have HNL := keepH hnl
        have hnl2 : nl ≤ 100000000 := by omega
        have qw : wrap64 ((nl : Int) + 1) = (nl : Int) + 1 := by unfold wrap64; omega
        clear hnl
        subst h6
        go_wp2_with fail
        go_ret3
        refine ⟨.slice none 0 0, 52, nl + 1, [], by simp, ?_, ?_⟩
        · exact ⟨below_chain H3.out.ar.bel (below_alloc _ _), World.ownsRow_nil _ _ _ _, fun b e => by simp [Value.ownBlock] at e, fun i y h => by simp at h⟩
        · exact Or.inr ⟨rfl, rfl, ys.map Prod.fst, r, by rw [HNL.out]; simp, HI.out.txt, HI.out.good, HBAD.out⟩
      · subst hlr
        have hll : l.length + r'.length + 1 ≤ t.length := by simp at hrl; omega
        have hcut := cut_end l r' (by omega) hl wr
        have hpa := fun w' (hb : Below wr.heap.size wr w') => parse_line l (by omega) tb w' (HI.out.frm.on hb) (HT.out.on (below_chain HI.out.ar.bel hb))
        obtain ⟨sr, hsr⟩ : ∃ s, s = mkS (l ++ 10 :: r') := ⟨_, rfl⟩
        have hsz : sr.size = l.length + 1 + r'.length := by rw [hsr, mkS_size]; simp; omega
        obtain ⟨sl, hsl⟩ : ∃ s, s = mkS l := ⟨_, rfl⟩
        obtain ⟨sr', hsr'⟩ : ∃ s, s = mkS r' := ⟨_, rfl⟩
        have hsz' : sr'.size = r'.length := by rw [hsr', mkS_size]
        rw [← hsr, ← hsl, ← hsr'] at hcut
        rw [← hsr] at hq hq2 ⊢
        rw [← hsl] at hpa
        have HPA := keepH hpa
        have HL := keepH hl
        have HSR' := keepH hsr'
        have HSZ := keepH (And.intro hsz hsz')
        clear hsr hsl hsr' hpa hl hr0 hsz hsz'
        go_wp2_with fail
        refine hcut.mono ?_
        rintro e w2 ⟨rfl, C2⟩
        have hpa := HPA.out w2 C2
        have H2 := keepH (HI.out.on C2)
        clear C2 hcut
        go_wp2_with fail
        refine hpa.mono ?_
        rintro e w3 ⟨v, rfl, hv⟩
        obtain ⟨cs, rr, rfl, hP⟩ := hv
        have H3 := keepH (H2.out.on hP.bel)
        obtain ⟨nl, hnl⟩ : ∃ nl, nl = ys.length := ⟨_, rfl⟩
        obtain ⟨p6, c6, h6⟩ := row_a_slice H3.out.ar.row
        rw [← hnl] at h6
        have HNL := keepH hnl
        have hnl2 : nl ≤ 100000000 := by omega
        have qw : wrap64 ((nl : Int) + 1) = (nl : Int) + 1 := by unfold wrap64; omega
        cases rr
        · have HBAD : Hid (Bad (l ++ 10 :: r')) := keepH ⟨by simp, Or.inr ⟨l, r', HL.out, rfl, by
            cases hq : lineP l with
            | none => rfl
            | some x => have := (hP.yes x hq).1; cases this⟩⟩
          obtain ⟨x, vp, vn, vc, rfl⟩ := hP.ex
          clear hP hpa hnl
          obtain ⟨xth, xk, xad, xa, xb, xvals, xgot, xok⟩ := x
          simp only
          subst h6
          go_wp2_with fail
          go_ret3
          refine ⟨.slice none 0 0, 52, nl + 1, [], by simp, ?_, ?_⟩
          · exact ⟨below_chain H3.out.ar.bel (below_alloc _ _), World.ownsRow_nil _ _ _ _, fun b e => by simp [Value.ownBlock] at e, fun i y h => by simp at h⟩
          · exact Or.inr ⟨rfl, rfl, ys.map Prod.fst, _, by rw [HNL.out]; simp, HI.out.txt, HI.out.good, HBAD.out⟩
        · obtain ⟨x, hx⟩ : ∃ x, lineP l = some x := by
            cases hq : lineP l with
            | none => have := hP.no hq; cases this
            | some x => exact ⟨x, rfl⟩
          obtain ⟨_, vs, rfl, hrow, hnew⟩ := hP.yes x hx
          obtain ⟨vp, vc, hvs⟩ := row_u_slice hrow
          subst hvs
          have HROW : Hid (w3.ownsRow 0 33 1 (.slice vp x.vals.length vc) x.vals.length (u64L x.vals) ∧ ∀ g, (Value.slice vp x.vals.length vc).ownBlock = some g → W.heap.size ≤ g) := keepH ⟨hrow, fun g hg => Nat.le_trans H2.out.ar.bel.size (hnew g hg)⟩
          have HX := keepH hx
          clear hP hpa hnl hrow hnew hx
          obtain ⟨xth, xk, xad, xa, xb, xvals, xgot, xok⟩ := x
          obtain ⟨vn, hvn⟩ : ∃ vn, vn = xvals.length := ⟨_, rfl⟩
          simp only at HROW ⊢
          rw [← hvn] at HROW ⊢
          have HVN := keepH hvn
          clear hvn
          subst h6
          obtain ⟨w4, hw4⟩ : ∃ w4, w4 = w3.alloc (.cells #[.int .i64 xth, .int .u8 (xk : Int), .int .u64 (xad : Int), .int .u64 (xa : Int), .int .u64 (xb : Int), .slice vp vn vc, .int .u64 (xgot : Int), .bool xok] 36) := ⟨_, rfl⟩
          obtain ⟨ab, hab⟩ : ∃ ab, ab = w3.heap.size := ⟨_, rfl⟩
          have C4 : Below w3.heap.size w3 w4 := by rw [hw4]; exact below_alloc _ _
          have X4 : w4.heap[ab]? = some (.cells #[.int .i64 xth, .int .u8 (xk : Int), .int .u64 (xad : Int), .int .u64 (xa : Int), .int .u64 (xb : Int), .slice vp vn vc, .int .u64 (xgot : Int), .bool xok] 36 (0, 0)) := by rw [hw4, hab]; exact heap_alloc_new _ _
          have H4 := keepH (H3.out.on C4)
          have HROW4 : Hid (w4.ownsRow 0 33 1 (.slice vp vn vc) vn (u64L xvals) ∧ ∀ g, (Value.slice vp vn vc).ownBlock = some g → W.heap.size ≤ g) := keepH ⟨row_kept HROW.out.1 (fun k hk => C4.block k (row_lt HROW.out.1 k hk)), HROW.out.2⟩
          have b0 : w4.cell? ⟨ab, 0, none⟩ = some (.int .i64 xth) := cell_of X4 0
          have b1 : w4.cell? ⟨ab, 1, none⟩ = some (.int .u8 (xk : Int)) := cell_of X4 1
          have b2 : w4.cell? ⟨ab, 2, none⟩ = some (.int .u64 (xad : Int)) := cell_of X4 2
          have b3 : w4.cell? ⟨ab, 3, none⟩ = some (.int .u64 (xa : Int)) := cell_of X4 3
          have b4 : w4.cell? ⟨ab, 4, none⟩ = some (.int .u64 (xb : Int)) := cell_of X4 4
          have b5 : w4.cell? ⟨ab, 5, none⟩ = some (.slice vp vn vc) := cell_of X4 5
          have b6 : w4.cell? ⟨ab, 6, none⟩ = some (.int .u64 (xgot : Int)) := cell_of X4 6
          have b7 : w4.cell? ⟨ab, 7, none⟩ = some (.bool xok) := cell_of X4 7
          clear C4 X4
          go_upto_region 7 with fail
          rw [← hw4, ← hab]
          clear hw4 hab
          obtain ⟨w5, hw5⟩ : ∃ w5, w5 = w4.alloc (.cells #[.int .i64 xth, .int .u8 (xk : Int), .int .u64 (xad : Int), .int .u64 (xa : Int), .int .u64 (xb : Int), .slice vp vn vc, .int .u64 (xgot : Int), .bool xok] 36) := ⟨_, rfl⟩
          have HRW : Hid (w5.ownsRow 0 36 8 (.slice p6 nl c6) nl (accsRow ys)) := by rw [hw5]; have := H4.out.ar.row; rw [← HNL.out] at this; exact this.alloc _
          have HX5 : Hid (∀ j z, [Value.int .i64 xth, .int .u8 (xk : Int), .int .u64 (xad : Int), .int .u64 (xa : Int), .int .u64 (xb : Int), .slice vp vn vc, .int .u64 (xgot : Int), .bool xok][j]? = some z → w5.cell? ((⟨w4.heap.size, 0, none⟩ : Addr).add j) = some z) := by rw [hw5]; exact cells_newR w4 _ rfl #[.int .i64 xth, .int .u8 (xk : Int), .int .u64 (xad : Int), .int .u64 (xa : Int), .int .u64 (xb : Int), .slice vp vn vc, .int .u64 (xgot : Int), .bool xok] 36
          have HW5 := keepH hw5
          clear hw5
          go_wp2_with (first | (at_builtin; rw [← HW5.out]; refine wpList_append_own_at _ rfl _ _ 22 rfl 0 36 i0 (.agg (bxA ax0 (.slice none 0 0))) 8 80 Tryz.underlying22 hi hz0 hz1 hz2 rfl (by decide) (.slice p6 nl c6) nl (accsRow ys) rfl HRW.out ⟨w4.heap.size, 0, none⟩ 1 1 [.int .i64 xth, .int .u8 (xk : Int), .int .u64 (xad : Int), .int .u64 (xa : Int), .int .u64 (xb : Int), .slice vp vn vc, .int .u64 (xgot : Int), .bool xok] rfl rfl HX5.out (by intro z hz; simp at hz; rcases hz with rfl | rfl | rfl | rfl | rfl | rfl | rfl | rfl <;> rfl) (by unfold maxLen; omega) (by omega) (Nat.zero_le _) ?_; intro v2 w6 r1 r2 r3 r4; have R1 := keepH r1; have R2 := keepH r2; have R4 := keepH r4; clear r1 r2 r3 r4) | go_in)
          have HM : Hid (PM W tb t v2 (ys ++ [(⟨xth, xk, xad, xa, xb, xvals, xgot, xok⟩, .slice vp vn vc)]) r' w6) := keepH (H4.out.more (o := .cells #[.int .i64 xth, .int .u8 (xk : Int), .int .u64 (xad : Int), .int .u64 (xa : Int), .int .u64 (xb : Int), .slice vp vn vc, .int .u64 (xgot : Int), .bool xok] 36) HX.out (by simp only; rw [← HVN.out]; exact HROW4.out.1) HROW4.out.2 (by rw [← HNL.out]; exact R1.out) (by rw [← HW5.out]; exact R2.out) (by rw [← HW5.out]; exact R4.out))
          go_roundw
          case rel => exact ⟨_, r', by rw [HSR'.out], by omega, HM.out.len, HM⟩
          case measure => have := HSZ.out; simp only [strN]; omega
end Go.Proofs.YtdgagpcofghbaaaGreatDoor
