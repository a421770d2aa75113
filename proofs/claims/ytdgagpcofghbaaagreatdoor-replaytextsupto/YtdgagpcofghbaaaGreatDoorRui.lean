/- What lies in memory while the document reads a line; pure facts of what it reads. -/
import Derived.Test.YtdgagpcofghbaaaGreatDoorRuh
namespace Go.Proofs.YtdgagpcofghbaaaGreatDoor
open Go.RowKit Go.Shelf
set_option linter.unusedVariables false

def AtQ (f : List UInt8) (v : Value) : Prop := ∃ (x : Int) (p : Value), v = .tuple #[.int .i64 x, p] ∧ (-9223372036854775808 ≤ x ∧ x < 9223372036854775808) ∧ ∀ z, Lib.atoiAll f = .ok z → x = z
theorem atoi_each (f : List UInt8) (hf : f.length ≤ 200000000) (w : World) (T : Tb w) :
    Calls Tryz.prog 45 #[.string (mkS f)] w fun e w' => ∃ v, e = .returned v ∧ AtQ f v ∧ Below w.heap.size w w' := by
  cases hp : Lib.atoiAll f with
  | ok u =>
    refine (atoi_ok f hf u hp w).mono ?_
    rintro e w' ⟨rfl, hb⟩
    exact ⟨_, rfl, ⟨u, _, rfl, atoi_range hp, fun v h => by rw [hp] at h; injection h⟩, hb⟩
  | «syntax» =>
    obtain ⟨a, b, h2⟩ := T.es
    refine (Any.strconv_Atoi_syntax_var Tryz.lays172 (mkS f) (by rw [mkS_size]; omega) (by simpa using hp) a b w h2).mono ?_
    rintro e w' ⟨N, rfl, -, -, hb⟩
    exact ⟨_, rfl, ⟨0, _, rfl, by decide, fun v h => by rw [hp] at h; cases h⟩, hb⟩
  | range =>
    obtain ⟨a, b, h2⟩ := T.er
    refine (Any.strconv_Atoi_range_var Tryz.lays172 (mkS f) (by rw [mkS_size]; omega) (by simpa using hp) a b w h2).mono ?_
    rintro e w' ⟨N, rfl, -, -, hb⟩
    exact ⟨_, rfl, ⟨_, _, rfl, by unfold Lib.atoiSat; split <;> decide, fun v h => by rw [hp] at h; cases h⟩, hb⟩

/-- what lies in memory while a line is read -/
structure RS (W : World) (rb AB : Nat) (wv : Value) (ws : List (List UInt8)) (y : Ax) (vs : Value) (wr : World) : Prop where
  bel : Below W.heap.size W wr
  res : wr.heap[rb]? = some (.cells (bxA ax0 (.slice none 0 0)) 36 (0, 0))
  row : wr.ownsRow 0 9 1 wv ws.length (strsRow ws)
  box : wr.heap[AB]? = some (.cells (bxA y vs) 36 (0, 0))
  vrow : wr.ownsRow 0 33 1 vs y.vals.length (u64L y.vals)
  vnew : ∀ g, vs.ownBlock = some g → W.heap.size ≤ g
  rnew : ∀ g, wv.ownBlock = some g → W.heap.size ≤ g
  l1 : W.heap.size ≤ rb
  l2 : W.heap.size ≤ AB
  l3 : rb ≠ AB
theorem RS.on {W : World} {rb AB : Nat} {wv : Value} {ws : List (List UInt8)} {y : Ax} {vs : Value} {wr w' : World} (h : RS W rb AB wv ws y vs wr) (hb : Below wr.heap.size wr w') : RS W rb AB wv ws y vs w' :=
  ⟨below_chain h.bel hb, heap_below h.res hb, row_kept h.row (fun k hk => hb.block k (row_lt h.row k hk)), heap_below h.box hb, row_kept h.vrow (fun k hk => hb.block k (row_lt h.vrow k hk)), h.vnew, h.rnew, h.l1, h.l2, h.l3⟩
theorem row_not {W : World} {e : TypeId} {s n : Nat} {v : Value} {xs : List Value} {b : Nat} {cs : Array Value} (h : W.ownsRow 0 e s v n xs) (hb : W.heap[b]? = some (.cells cs 36 (0, 0))) (hne : e ≠ 36) : v.ownBlock ≠ some b := fun k => by
  obtain ⟨cur, hcur⟩ := row_block h b k
  rw [hb] at hcur
  injection hcur with hcur
  injection hcur with _ ht
  exact hne ht.symm
theorem RS.set {W : World} {rb AB : Nat} {wv : Value} {ws : List (List UInt8)} {y : Ax} {vs : Value} {wr : World} (h : RS W rb AB wv ws y vs wr) (i : Nat) (v : Value) (y' : Ax) (he : (bxA y vs).setIfInBounds i v = bxA y' vs) (hv : y'.vals = y.vals) : RS W rb AB wv ws y' vs (wr.setCell ⟨AB, i, none⟩ v) := by
  refine ⟨h.bel.setCell h.l2 _, other_of h.res h.l3 v, row_kept h.row (fun k hk => Below.heap_setCell _ _ _ _ (fun e => ?_)), ?_, ?_, h.vnew, h.rnew, h.l1, h.l2, h.l3⟩
  · exact row_not h.row h.box (by decide) (by rw [hk]; exact congrArg some e)
  · rw [← he]; exact set_of h.box i v
  · rw [hv]
    exact row_kept h.vrow (fun k hk => Below.heap_setCell _ _ _ _ (fun e => row_not h.vrow h.box (by decide) (by rw [hk]; exact congrArg some e)))
theorem RS.pad {W : World} {rb AB : Nat} {wv wv' : Value} {ws : List (List UInt8)} {y : Ax} {vs : Value} {wr w2 : World} {r : List UInt8} {o : Obj} (h : RS W rb AB wv ws y vs wr)
    (hr : w2.ownsRow 0 9 1 wv' (ws.length + 1) (strsRow ws ++ [.string (mkS r)])) (hg : (wr.alloc o).grownBy w2 wv.ownBlock) (hw : wv'.ownBlock = wv.ownBlock ∨ wv'.ownBlock = some (wr.alloc o).heap.size) : RS W rb AB wv' (ws ++ [r]) y vs w2 := by
  have h1 := h.on (below_alloc wr o)
  have keepB : ∀ (b : Nat) (cs : Array Value), (wr.alloc o).heap[b]? = some (.cells cs 36 (0, 0)) → w2.heap[b]? = some (.cells cs 36 (0, 0)) := fun b cs hb => (hg.block b (lt_of hb) (fun e => row_not h1.row hb (by decide) e.symm)).trans hb
  refine ⟨h1.bel.grown hg h1.bel.size (fun b e => h.rnew b e), keepB _ _ h1.res, by rw [strsRow_snoc, List.length_append]; exact hr, keepB _ _ h1.box, row_kept h1.vrow (fun k hk => hg.block k (row_lt h1.vrow k hk) (fun e => ?_)), h.vnew, ?_, h.l1, h.l2, h.l3⟩
  · obtain ⟨cur, hcur⟩ := row_block h1.vrow k hk
    exact block_apart h1.row hcur (by decide) e.symm
  · intro g hgg
    rcases hw with e | e
    · rw [e] at hgg; exact h.rnew g hgg
    · rw [e] at hgg
      simp at hgg
      have := h.bel.size
      omega
theorem RS.val {W : World} {rb AB : Nat} {wv : Value} {ws : List (List UInt8)} {y : Ax} {vs vs' : Value} {wr w2 : World} {u : Nat} {o : Obj} (h : RS W rb AB wv ws y vs wr)
    (hr : w2.ownsRow 0 33 1 vs' (y.vals.length + 1) (u64L y.vals ++ [.int .u64 (u : Int)])) (hg : (wr.alloc o).grownBy w2 vs.ownBlock) (hw : vs'.ownBlock = vs.ownBlock ∨ vs'.ownBlock = some (wr.alloc o).heap.size) :
    RS W rb AB wv ws { y with vals := y.vals ++ [u] } vs' (w2.setCell ⟨AB, 5, none⟩ vs') ∧ w2.cell? ⟨AB, 5, none⟩ = some vs ∧ w2.frozen? ⟨AB, 5, none⟩ = false := by
  have h1 := h.on (below_alloc wr o)
  have keepB : ∀ (b : Nat) (cs : Array Value), (wr.alloc o).heap[b]? = some (.cells cs 36 (0, 0)) → w2.heap[b]? = some (.cells cs 36 (0, 0)) := fun b cs hb => (hg.block b (lt_of hb) (fun e => row_not h1.vrow hb (by decide) e.symm)).trans hb
  have hb2 := keepB _ _ h1.box
  have hrow2 : w2.ownsRow 0 9 1 wv ws.length (strsRow ws) := row_kept h1.row (fun k hk => hg.block k (row_lt h1.row k hk) (fun e => by
    obtain ⟨cur, hcur⟩ := row_block h1.row k hk
    exact block_apart h1.vrow hcur (by decide) e.symm))
  refine ⟨⟨(h1.bel.grown hg h1.bel.size (fun b e => h.vnew b e)).setCell h.l2 _, other_of (keepB _ _ h1.res) h.l3 _, row_kept hrow2 (fun k hk => Below.heap_setCell _ _ _ _ (fun e => row_not hrow2 hb2 (by decide) (by rw [hk]; exact congrArg some e))), set_of hb2 5 vs', ?_, ?_, h.rnew, h.l1, h.l2, h.l3⟩, cell_of hb2 5, free_of hb2 5⟩
  · simp only
    rw [List.length_append, show u64L (y.vals ++ [u]) = u64L y.vals ++ [.int .u64 (u : Int)] by simp [u64L]]
    exact row_kept hr (fun k hk => Below.heap_setCell _ _ _ _ (fun e => row_not hr hb2 (by decide) (by rw [hk]; exact congrArg some e)))
  · intro g hgg
    rcases hw with e | e
    · rw [e] at hgg; exact h.vnew g hgg
    · rw [e] at hgg
      simp at hgg
      have := h.bel.size
      omega
theorem step_store_row {P : Program} {ops : Array Oper} {o : Oper} {a : Act} {w : World} {K : Act → World → Prop} {Q : Exit → Act → World → Prop} {E : Prop} (hgd : o.guard = none) (ty : TypeId) (x y : Operand) (ho : o.op = .store ty x y)
    (g : Nat) (cells : Array Value) (hx : a.eval x = .pointer (some ⟨g, 0, none⟩)) (hy : a.eval y = .agg cells)
    (t : TypeId) (old : Array Value) (hg : w.heap[g]? = some (.cells old t (0, 0))) (hi : (P.info? ty).map (·.size) = some cells.size)
    (hold : old.size = cells.size) (h1 : cells.all (·.oneCell') = true) (h : K (a.put o.dst undef) (w.setRow g cells)) :
    if Region.wanted o (yielded ops a.tmps) = true then Oper.wp P o a w K Q else E := by
  have hw : Region.wanted o (yielded ops a.tmps) = true := by simp [Region.wanted, hgd]
  rw [if_pos hw]
  exact wp_store_row ty x y ho g cells hx hy t old hg hi hold h1 h

/-! pure -/
theorem word_inj {i j : Nat} (hi : 1 ≤ i ∧ i ≤ 5) (hj : 1 ≤ j ∧ j ≤ 5) (e : wordL i = wordL j) : i = j := by
  have h1 := kindP_word hi.1 hi.2
  rw [e, kindP_word hj.1 hj.2] at h1
  injection h1 with h1
  exact h1.symm
/-- so far read: thread, kind and cell -/
def Pst (ws : List (List UInt8)) (y : Ax) : Prop := y.Ok ∧ ∀ x, RightA x → x.Ok → ws = partsL x → y.th = x.th ∧ y.kind = x.kind ∧ y.addr = x.addr
def FinP (ws : List (List UInt8)) (y : Ax) : Prop := y.Ok ∧ ∀ x, RightA x → x.Ok → ws = partsL x → y = x
theorem parts_3 {x : Ax} (h : RightA x) : 3 ≤ (partsL x).length := by
  rcases h with h | h | h | h | h <;> simp [partsL, numsL, h.1]
theorem fin_0 {ws : List (List UInt8)} {y : Ax} (h : Pst ws y) (h0 : y.kind = 0) : FinP ws y := ⟨h.1, fun x hr ho e => by
  have := right_kind hr
  have := (h.2 x hr ho e).2.1
  omega⟩
theorem fin_1 {ws : List (List UInt8)} {th : Int} {ad u : Nat} {w3 : List UInt8} {pd : List (List UInt8)} (h : Pst ws ⟨th, 1, ad, 0, 0, [], 0, false⟩) (h3 : (ws ++ pd)[3]? = some w3) (hu : isU u) (hz : ∀ z, natP w3 = some z → u = z) : FinP ws ⟨th, 1, ad, 0, 0, [], u, false⟩ := by
  refine ⟨⟨h.1.th0, h.1.th1, h.1.kind, h.1.addr, okU0, okU0, hu, h.1.vals⟩, fun x hr ho e => ?_⟩
  obtain ⟨e1, e2, e3⟩ := h.2 x hr ho e
  obtain ⟨xth, xk, xad, xa, xb, xvals, xgot, xok⟩ := x
  simp only at e1 e2 e3
  subst e1 e2 e3
  rcases hr with ⟨_, q⟩ | ⟨q, _⟩ | ⟨q, _⟩ | ⟨q, _⟩ | ⟨q, _⟩ <;> simp only at q <;> first | omega | skip
  obtain ⟨rfl, rfl, rfl, rfl⟩ := q
  rw [e] at h3
  simp [partsL, numsL] at h3
  have := hz xgot (by rw [← h3]; exact natP_dec _ ho.got)
  rw [this]
theorem fin_2 {ws : List (List UInt8)} {th : Int} {ad u : Nat} {w3 : List UInt8} {pd : List (List UInt8)} (h : Pst ws ⟨th, 2, ad, 0, 0, [], 0, false⟩) (h3 : (ws ++ pd)[3]? = some w3) (hu : isU u) (hz : ∀ z, natP w3 = some z → u = z) : FinP ws ⟨th, 2, ad, u, 0, [], 0, false⟩ := by
  refine ⟨⟨h.1.th0, h.1.th1, h.1.kind, h.1.addr, hu, okU0, okU0, h.1.vals⟩, fun x hr ho e => ?_⟩
  obtain ⟨e1, e2, e3⟩ := h.2 x hr ho e
  obtain ⟨xth, xk, xad, xa, xb, xvals, xgot, xok⟩ := x
  simp only at e1 e2 e3
  subst e1 e2 e3
  rcases hr with ⟨q, _⟩ | ⟨_, q⟩ | ⟨q, _⟩ | ⟨q, _⟩ | ⟨q, _⟩ <;> simp only at q <;> first | omega | skip
  obtain ⟨rfl, rfl, rfl, rfl⟩ := q
  rw [e] at h3
  simp [partsL, numsL] at h3
  have := hz xa (by rw [← h3]; exact natP_dec _ ho.a)
  rw [this]
theorem fin_3 {ws : List (List UInt8)} {th : Int} {ad u u' : Nat} {w3 w4 w5 : List UInt8} {pd : List (List UInt8)} (h : Pst ws ⟨th, 3, ad, 0, 0, [], 0, false⟩) (h3 : (ws ++ pd)[3]? = some w3) (h4 : (ws ++ pd)[4]? = some w4) (h5 : (ws ++ pd)[5]? = some w5) (hu : isU u) (hz : ∀ z, natP w3 = some z → u = z) (hu' : isU u') (hz' : ∀ z, natP w4 = some z → u' = z) : FinP ws ⟨th, 3, ad, u, u', [], 0, decide (w5 = okL true)⟩ := by
  refine ⟨⟨h.1.th0, h.1.th1, h.1.kind, h.1.addr, hu, hu', okU0, h.1.vals⟩, fun x hr ho e => ?_⟩
  obtain ⟨e1, e2, e3⟩ := h.2 x hr ho e
  obtain ⟨xth, xk, xad, xa, xb, xvals, xgot, xok⟩ := x
  simp only at e1 e2 e3
  subst e1 e2 e3
  rcases hr with ⟨q, _⟩ | ⟨q, _⟩ | ⟨_, q⟩ | ⟨q, _⟩ | ⟨q, _⟩ <;> simp only at q <;> first | omega | skip
  obtain ⟨rfl, rfl⟩ := q
  rw [e] at h3 h4 h5
  simp [partsL, numsL] at h3 h4 h5
  have a1 := hz xa (by rw [← h3]; exact natP_dec _ ho.a)
  have a2 := hz' xb (by rw [← h4]; exact natP_dec _ ho.b)
  rw [a1, a2, ← h5]
  cases xok <;> rfl
theorem fin_4 {ws : List (List UInt8)} {th : Int} {ad u u' : Nat} {w3 w4 : List UInt8} {pd : List (List UInt8)} (h : Pst ws ⟨th, 4, ad, 0, 0, [], 0, false⟩) (h3 : (ws ++ pd)[3]? = some w3) (h4 : (ws ++ pd)[4]? = some w4) (hu : isU u) (hz : ∀ z, natP w3 = some z → u = z) (hu' : isU u') (hz' : ∀ z, natP w4 = some z → u' = z) : FinP ws ⟨th, 4, ad, u, 0, [], u', false⟩ := by
  refine ⟨⟨h.1.th0, h.1.th1, h.1.kind, h.1.addr, hu, okU0, hu', h.1.vals⟩, fun x hr ho e => ?_⟩
  obtain ⟨e1, e2, e3⟩ := h.2 x hr ho e
  obtain ⟨xth, xk, xad, xa, xb, xvals, xgot, xok⟩ := x
  simp only at e1 e2 e3
  subst e1 e2 e3
  rcases hr with ⟨q, _⟩ | ⟨q, _⟩ | ⟨q, _⟩ | ⟨_, q⟩ | ⟨q, _⟩ <;> simp only at q <;> first | omega | skip
  obtain ⟨rfl, rfl, rfl⟩ := q
  rw [e] at h3 h4
  simp [partsL, numsL] at h3 h4
  have a1 := hz xa (by rw [← h3]; exact natP_dec _ ho.a)
  have a2 := hz' xgot (by rw [← h4]; exact natP_dec _ ho.got)
  rw [a1, a2]
/-- the numbers of the words from the third on, as far as they are read -/
def ValP (ws : List (List UInt8)) (k : Nat) (us : List Nat) : Prop := us.length = k ∧ ∀ (j u : Nat), us[j]? = some u → isU u ∧ ∀ f z, ws[3 + j]? = some f → natP f = some z → u = z
theorem ValP.more {ws : List (List UInt8)} {k : Nat} {us : List Nat} (h : ValP ws k us) {u : Nat} {f : List UInt8} (hf : ws[3 + k]? = some f) (hu : isU u) (hz : ∀ z, natP f = some z → u = z) : ValP ws (k + 1) (us ++ [u]) := by
  refine ⟨by simp [h.1], fun j v hj => ?_⟩
  by_cases c : j < us.length
  · rw [List.getElem?_append_left c] at hj
    exact h.2 j v hj
  · have hj' : j = us.length := by
      have := (List.getElem?_eq_some_iff.1 hj).1
      simp at this
      omega
    subst hj'
    simp at hj
    subst hj
    refine ⟨hu, fun f' z hf' hz' => ?_⟩
    rw [h.1, hf] at hf'
    injection hf' with hf'
    subst hf'
    exact hz z hz'
theorem fin_5 {ws : List (List UInt8)} {th : Int} {ad : Nat} {us : List Nat} (h : Pst ws ⟨th, 5, ad, 0, 0, [], 0, false⟩) (hl : 3 ≤ ws.length) (hv : ValP ws (ws.length - 3) us) : FinP ws ⟨th, 5, ad, 0, 0, us, 0, false⟩ := by
  refine ⟨⟨h.1.th0, h.1.th1, h.1.kind, h.1.addr, okU0, okU0, okU0, fun u hu => by
    obtain ⟨j, hj, rfl⟩ := List.getElem_of_mem hu
    exact (hv.2 j _ (List.getElem?_eq_getElem hj)).1⟩, fun x hr ho e => ?_⟩
  obtain ⟨e1, e2, e3⟩ := h.2 x hr ho e
  obtain ⟨xth, xk, xad, xa, xb, xvals, xgot, xok⟩ := x
  simp only at e1 e2 e3
  subst e1 e2 e3
  rcases hr with ⟨q, _⟩ | ⟨q, _⟩ | ⟨q, _⟩ | ⟨q, _⟩ | ⟨_, q⟩ <;> simp only at q <;> first | omega | skip
  obtain ⟨rfl, rfl, rfl, rfl⟩ := q
  have ews : ws = [Lib.itoa th, wordL 5, Lib.decDigits ad] ++ xvals.map Lib.decDigits := by rw [e]; simp [partsL, numsL]
  have hul : us.length = xvals.length := by rw [hv.1, ews]; simp
  have : us = xvals := by
    refine List.ext_getElem hul (fun j h1 h2 => ?_)
    obtain ⟨_, q⟩ := hv.2 j us[j] (List.getElem?_eq_getElem h1)
    refine q (Lib.decDigits xvals[j]) xvals[j] ?_ (natP_dec _ (ho.vals _ (List.getElem_mem h2)))
    rw [ews, List.getElem?_append_right (by simp)]
    simp [h2]
  rw [this]
/-- what is told in the end -/
theorem end_yes {W W' : World} {t : List UInt8} {y : Ax} {vs : Value} (hr : RightA y) (ho : y.Ok) (ht : lineA y = t) (hb : Below W.heap.size W W') (hv : W'.ownsRow 0 33 1 vs y.vals.length (u64L y.vals)) (hn : ∀ g, vs.ownBlock = some g → W.heap.size ≤ g) : PaP W t (bxA y vs) true W' := by
  have hl : lineP t = some y := by rw [← ht]; exact lineP_line hr ho
  refine ⟨hb, fun x e => ?_, fun e => ?_, ?_⟩
  · rw [hl] at e; injection e with e; subst e
    exact ⟨rfl, vs, rfl, hv, hn⟩
  · rw [hl] at e; cases e
  · obtain ⟨p, c, e⟩ := row_u_slice hv
    exact ⟨y, p, _, c, by rw [e]⟩
theorem end_no {W W' : World} {t : List UInt8} {y : Ax} {vs : Value} (hf : FinP (Lib.split t [32]) y) (hno : ¬ (RightA y ∧ lineA y = t)) (hb : Below W.heap.size W W') (hv : W'.ownsRow 0 33 1 vs y.vals.length (u64L y.vals)) : PaP W t (bxA y vs) false W' := by
  refine ⟨hb, fun x e => ?_, fun e => rfl, ?_⟩
  · exfalso
    obtain ⟨h1, h2, h3⟩ := lineP_some e
    have := hf.2 x h1 h2 (by rw [h3, split_line])
    subst this
    exact hno ⟨h1, h3.symm⟩
  · obtain ⟨p, c, e⟩ := row_u_slice hv
    exact ⟨y, p, _, c, by rw [e]⟩
end Go.Proofs.YtdgagpcofghbaaaGreatDoor
