/- Diff, walked. -/
import Derived.Test.YtbmfjcdafjknaaaEh
namespace Go.Proofs.Ytbmfjcdafjknaaa
open Go.RowKit Go.Shelf
set_option linter.unusedVariables false
attribute [local go_sem] Oper.semAt_some

theorem keepsO_below {W W' : World} (h : Below W.heap.size W W') : KeepsOthers W W' := ⟨h.size, fun k o hk _ => (h.block k (Array.getElem?_eq_some_iff.1 hk).1).trans hk⟩
theorem box_below {W W' : World} {B : Nat} {t : TypeId} {v : Value} (h : Boxed W B t v) (hb : Below W.heap.size W W') : Boxed W' B t v := h.kept (grown_none hb) (by simp)
/-- A row in a box that is longer by one. -/
theorem box_add {W w1 : World} {n1 Bl : Nat} {t e : TypeId} {s : Nat} {v v' : Value} {k m : Nat} {xs ys : List Value} {tmp : Obj} {F : Nat → Prop} (hv : Boxed W Bl t v) (hte : t ≠ e) (hrow : W.ownsRow n1 e s v k xs) (hown : w1.ownsRow n1 e s v' m ys) (hg : (W.alloc tmp).grownBy w1 v.ownBlock) (hF : ∀ j, n1 ≤ j → F j) (hFl : F Bl) :
    Boxed w1 Bl t v ∧ Boxed (w1.setCell ⟨Bl, 0, none⟩ v') Bl t v' ∧ (w1.setCell ⟨Bl, 0, none⟩ v').ownsRow n1 e s v' m ys ∧ KeepsOthers W (w1.setCell ⟨Bl, 0, none⟩ v') ∧ Chg F W (w1.setCell ⟨Bl, 0, none⟩ v') := by
  obtain ⟨a, b, _, d, _⟩ := hv.appended hte (row_base hrow (Nat.zero_le _)) (Nat.zero_le _) (Nat.zero_le _) (row_base hown (Nat.zero_le _)) hg
  refine ⟨a, b, hown.kept (grownBy_setCell' w1 Bl v') (.inr (a.not_row hte hown).symm), d, ?_⟩
  exact (((Chg.refl F W).alloc tmp).trans (grown_chgE (F := F) hg (fun j e => hF j (hrow.lt j e).1)) (fun _ _ x => x) (fun _ _ x => x)).setCell (fun _ => hFl) _
theorem ownFrom_chg {β : Type} {F : Nat → Prop} {w : World} (hF : ∀ j, w.heap.size ≤ j → F j) : OwnFrom w.heap.size (fun (_ : β) W => Chg F w W) := fun s A B row hs hg hr => hs.grown hg (fun k e _ => hF k (hr k e).1)
theorem chgK_b {F : Nat → Prop} {w : World} (hF : ∀ j, w.heap.size ≤ j → F j) (W : World) (l : Nat) (o o' : Obj) (hl : w.heap.size ≤ l) (h : W.heap[l]? = some o) (_ : o.isCells = false) (_ : o.isWalk = false) : Chg F W (W.putObj l o') :=
  (Chg.refl F W).grown (grownBy_putObj' W l o') (fun k e _ => by cases e; exact hF l hl)
theorem five_boxes {W2 W4 : World} {t1 t2 t3 : TypeId} {v0 v1 v2 v3 v4 : Value} (h : W4 = (((((W2.alloc (Obj.cells #[v0] t1)).alloc (Obj.cells #[v1] t2)).alloc (Obj.cells #[v2] t2)).alloc (Obj.cells #[v3] t3)).alloc (Obj.cells #[v4] t3))) :
    Boxed W4 W2.heap.size t1 v0 ∧ Boxed W4 (W2.heap.size + 1) t2 v1 ∧ Boxed W4 (W2.heap.size + 1 + 1) t2 v2 ∧ Boxed W4 (W2.heap.size + 1 + 1 + 1) t3 v3 ∧ Boxed W4 (W2.heap.size + 1 + 1 + 1 + 1) t3 v4 ∧ Below W2.heap.size W2 W4 ∧ W4.heap.size = W2.heap.size + 5 := by
  subst h
  refine ⟨((((Boxed.new W2 t1 v0).alloc _).alloc _).alloc _).alloc _, ?_, ?_, ?_, ?_, ((((((Below.refl _ W2).alloc (Nat.le_refl _) _).alloc (by simp) _).alloc (by simp; omega) _).alloc (by simp; omega) _).alloc (by simp; omega) _), by simp⟩
  · have := Boxed.new (W2.alloc (Obj.cells #[v0] t1)) t2 v1
    rw [World.size_alloc] at this
    exact ((this.alloc _).alloc _).alloc _
  · have := Boxed.new ((W2.alloc (Obj.cells #[v0] t1)).alloc (Obj.cells #[v1] t2)) t2 v2
    simp only [World.size_alloc] at this
    exact (this.alloc _).alloc _
  · have := Boxed.new (((W2.alloc (Obj.cells #[v0] t1)).alloc (Obj.cells #[v1] t2)).alloc (Obj.cells #[v2] t2)) t3 v3
    simp only [World.size_alloc] at this
    exact this.alloc _
  · have := Boxed.new ((((W2.alloc (Obj.cells #[v0] t1)).alloc (Obj.cells #[v1] t2)).alloc (Obj.cells #[v2] t2)).alloc (Obj.cells #[v3] t3)) t3 v4
    simp only [World.size_alloc] at this
    exact this
theorem PairsAt.base {W : World} {p : Option Addr} {l : List (Nat × Nat)} (h : PairsAt W p l) : ∃ bk off, (0 < l.length → p = some ⟨bk, off, none⟩) ∧ ∀ (i k x : Nat), l[i]? = some (k, x) → bk < W.heap.size ∧ W.cell? ⟨bk, off + i * 2, none⟩ = some (.int .u64 (k : Int)) ∧ W.cell? ⟨bk, off + i * 2 + 1, none⟩ = some (.int .u64 (x : Int)) := by
  rcases h with rfl | ⟨bk, off, rfl, hb, h⟩
  · exact ⟨0, 0, fun h => by simp at h, fun i k x h => by simp at h⟩
  · exact ⟨bk, off, fun _ => rfl, fun i k x e => ⟨hb, (h i k x e).2.2⟩⟩
theorem five_cells {X1 X2 : World} {a b c d e : Value} {t : TypeId} (h : Below (X1.alloc (.cells #[a, b, c, d, e] t)).heap.size (X1.alloc (.cells #[a, b, c, d, e] t)) X2) :
    X2.cell? ⟨X1.heap.size, 0, none⟩ = some a ∧ X2.cell? ⟨X1.heap.size, 1, none⟩ = some b ∧ X2.cell? ⟨X1.heap.size, 2, none⟩ = some c ∧ X2.cell? ⟨X1.heap.size, 3, none⟩ = some d ∧ X2.cell? ⟨X1.heap.size, 4, none⟩ = some e := by
  have hh : (X1.alloc (.cells #[a, b, c, d, e] t)).heap[X1.heap.size]? = some (.cells #[a, b, c, d, e] t (0, 0)) := heap_alloc_new _ _
  have h2 := (h.block X1.heap.size (by simp)).trans hh
  exact ⟨by rw [cell_of h2]; rfl, by rw [cell_of h2]; rfl, by rw [cell_of h2]; rfl, by rw [cell_of h2]; rfl, by rw [cell_of h2]; rfl⟩
theorem keeps_on {X X1 X2 : World} {o : Obj} (h1 : Below X.heap.size X X1) (h2 : Below (X1.alloc o).heap.size (X1.alloc o) X2) : KeepsOthers X X2 ∧ Chg (fun _ => False) X X2 := by
  have hb : Below X.heap.size X X2 := below_trans (below_trans h1 ((Below.refl _ X1).alloc (Nat.le_refl _) o)) h2
  exact ⟨keepsO_below hb, below_chgE hb⟩
theorem chg_on {X X1 X2 W4 : World} {F : Nat → Prop} {B n1 : Nat} {t e : TypeId} {v : Value} {s k : Nat} {xs : List Value} {o : Obj} (h : Boxed X B t v ∧ X.ownsRow n1 e s v k xs ∧ Chg F W4 X) (h1 : Below X.heap.size X X1) (h2 : Below (X1.alloc o).heap.size (X1.alloc o) X2) :
    Boxed X2 B t v ∧ X2.ownsRow n1 e s v k xs ∧ Chg F W4 X2 := by
  have hb : Below X.heap.size X X2 := below_trans (below_trans h1 ((Below.refl _ X1).alloc (Nat.le_refl _) o)) h2
  exact ⟨box_below h.1 hb, h.2.1.kept (grown_none hb) (by cases Value.ownBlock _ <;> simp), h.2.2.trans (below_chgE hb) (fun _ _ x => x) (fun _ _ x => x.elim)⟩
set_option maxRecDepth 100000 in
set_option maxHeartbeats 4000000 in
theorem diff_no {W : World} {pa pb : Option Addr} {la lb : List (Nat × Nat)} (HA : PairsAt W pa la) (HB : PairsAt W pb lb) (ca cb : Nat) (hla : la.length ≤ 10000000) (hlb : lb.length ≤ 10000000) (hr : ¬ (riseB la = true ∧ riseB lb = true)) :
    Calls Try.prog 20 #[.slice pa la.length ca, .slice pb lb.length cb] W fun e W' => e = .returned (.tuple #[.slice none 0 0, .int .i64 52]) ∧ Below W.heap.size W W' := by
  have HC := keepH (right_any HA ca (by omega))
  have HD := keepH (fun W1 (h : Below W.heap.size W W1) => right_any (W := W1) (HB.chgF (below_chgE h) (fun _ _ _ x => x)) cb (by omega))
  clear HA HB
  refine (callsIn_wide (n := 9)).1 ?_
  refine callsIn_of_wp_marks Try.func20 rfl trivial ?_ rfl
  simp only [Try.ntmps20, List.size_toArray, List.length_cons, List.length_nil, Nat.reduceAdd, Nat.reduceSub, Array.replicate_succ, Array.replicate_zero, List.push_toArray, List.append_toArray, List.nil_append, List.cons_append]
  by_cases ra : riseB la = true
  · have rb : riseB lb = false := by
      cases h : riseB lb with
      | false => rfl
      | true => exact absurd ⟨ra, h⟩ hr
    rw [ra] at HC
    rw [rb] at HD
    gi_wp2_with (first | (refine ⟨trivial, ?_⟩; gi_at_call 35; refine (callsIn_wide.2 HC.out).mono ?_; clear HC; rintro e W1 ⟨rfl, hB1⟩) | (refine ⟨trivial, ?_⟩; gi_at_call 35; refine (callsIn_wide.2 (HD.out _ hB1)).mono ?_; clear HD; rintro e W2 ⟨rfl, hB2⟩))
    exact ⟨_, results_tmp2 rfl _ _ _, rfl, below_trans hB1 hB2⟩
  · have ra : riseB la = false := by simpa using ra
    rw [ra] at HC
    gi_wp2_with (first | (refine ⟨trivial, ?_⟩; gi_at_call 35; refine (callsIn_wide.2 HC.out).mono ?_; clear HC; rintro e W1 ⟨rfl, hB1⟩))
    refine ⟨trivial, ?_⟩
    gi_wp2
    exact ⟨_, results_tmp2 rfl _ _ _, rfl, hB1⟩
set_option maxRecDepth 100000 in
set_option maxHeartbeats 4000000 in
theorem diff_yes {W : World} {pa pb : Option Addr} {la lb : List (Nat × Nat)} (HA : PairsAt W pa la) (HB : PairsAt W pb lb) {ca cb : Nat} (hca : la.length ≤ ca ∧ ca ≤ 9223372036854775807) (hcb : lb.length ≤ cb ∧ cb ≤ 9223372036854775807) (hla : la.length ≤ 10000000) (hlb : lb.length ≤ 10000000) (ra : riseB la = true) (rb : riseB lb = true) :
    Calls Try.prog 20 #[.slice pa la.length ca, .slice pb lb.length cb] W fun e W' => (∃ v, e = .returned (.tuple #[v, .int .i64 0]) ∧ W'.ownsRow W.heap.size 69 5 v (diffL la lb).length (chRow (diffL la lb))) ∧ Below W.heap.size W W' := by
  obtain ⟨i0, hi, hz0, hz1, hz2⟩ := info_parts infoCh
  have HC := right_any HA ca (by omega)
  have HD := fun W1 (h : Below W.heap.size W W1) => right_any (W := W1) (HB.chgF (below_chgE h) (fun _ _ _ x => x)) cb (by omega)
  rw [ra] at HC
  rw [rb] at HD
  replace HC := keepH HC
  replace HD := keepH HD
  have HAA := keepH HA
  have HBB := keepH HB
  clear HA HB ra rb
  refine (callsIn_wide (n := 9)).1 ?_
  refine callsIn_of_wp_marks Try.func20 rfl trivial ?_ rfl
  simp only [Try.ntmps20, List.size_toArray, List.length_cons, List.length_nil, Nat.reduceAdd, Nat.reduceSub, Array.replicate_succ, Array.replicate_zero, List.push_toArray, List.append_toArray, List.nil_append, List.cons_append]
  gi_wp2_with (first | (refine ⟨trivial, ?_⟩; gi_at_call 35; refine (callsIn_wide.2 HC.out).mono ?_; clear HC; rintro e W1 ⟨rfl, hB1⟩) | (refine ⟨trivial, ?_⟩; gi_at_call 35; refine (callsIn_wide.2 (HD.out _ hB1)).mono ?_; clear HD; rintro e W2 ⟨rfl, hB2⟩) | (refine ⟨trivial, ?_⟩; gi_at_call 44; refine (callsIn_wide.2 (mk_sbs _ _ _ _ _ _ _)).mono ?_; rintro e W3 ⟨rfl, rfl⟩))
  obtain ⟨W4, hW4⟩ : ∃ X, X = (((((W2.alloc (Obj.cells #[Value.slice none 0 0] 35)).alloc (Obj.cells #[Value.slice pa la.length ca] 22)).alloc (Obj.cells #[Value.slice pb lb.length cb] 22)).alloc (Obj.cells #[Value.func (Fn.func 45) #[] #[]] 86)).alloc (Obj.cells #[Value.func (Fn.func 45) #[] #[]] 86)) := ⟨_, rfl⟩
  rw [← hW4]
  obtain ⟨b0, b1, b2, b3, b4, hB4, hs4⟩ := five_boxes hW4
  clear hW4
  have HB4 : Hid (Below W.heap.size W W4) := keepH (below_trans (below_trans hB1 hB2) hB4)
  have hsz : W.heap.size ≤ W2.heap.size := Nat.le_trans hB1.size hB2.size
  obtain ⟨bka, offa, hpa, hAc⟩ := HAA.out.base
  obtain ⟨bkb, offb, hpb, hBc⟩ := HBB.out.base
  have hF : ∀ j, W4.heap.size ≤ j → (fun k => W4.heap.size ≤ k ∨ k = W2.heap.size) j := fun j h => .inl h
  have HCA : Hid (∀ (i k x : Nat), la[i]? = some (k, x) → (bka < W.heap.size) ∧ W4.cell? ⟨bka, offa + i * 2, none⟩ = some (.int .u64 (k : Int)) ∧ W4.cell? ⟨bka, offa + i * 2 + 1, none⟩ = some (.int .u64 (x : Int))) := keepH (fun i k x h => ⟨(hAc i k x h).1, cell_chg (below_chgE HB4.out) (hAc i k x h).2.1 (fun x => x), cell_chg (below_chgE HB4.out) (hAc i k x h).2.2 (fun x => x)⟩)
  have HCB : Hid (∀ (i k x : Nat), lb[i]? = some (k, x) → (bkb < W.heap.size) ∧ W4.cell? ⟨bkb, offb + i * 2, none⟩ = some (.int .u64 (k : Int)) ∧ W4.cell? ⟨bkb, offb + i * 2 + 1, none⟩ = some (.int .u64 (x : Int))) := keepH (fun i k x h => ⟨(hBc i k x h).1, cell_chg (below_chgE HB4.out) (hBc i k x h).2.1 (fun x => x), cell_chg (below_chgE HB4.out) (hBc i k x h).2.2 (fun x => x)⟩)
  clear hAc hBc hB1 hB2 hB4
  have nfa : ∀ (i k y : Nat), la[i]? = some (k, y) → ¬ (W4.heap.size ≤ bka ∨ bka = W2.heap.size) := fun i k y h => by have := (HCA.out i k y h).1; omega
  have nfb : ∀ (i k y : Nat), lb[i]? = some (k, y) → ¬ (W4.heap.size ≤ bkb ∨ bkb = W2.heap.size) := fun i k y h => by have := (HCB.out i k y h).1; omega
  refine wpIn_rangeFunc_ownF rfl (by omega) (gf := 65) (lb := #[.pointer (some ⟨W2.heap.size + 1, 0, none⟩), .pointer (some ⟨W2.heap.size + 1 + 1, 0, none⟩), .pointer (some ⟨W2.heap.size + 1 + 1 + 1, 0, none⟩), .pointer (some ⟨W2.heap.size + 1 + 1 + 1 + 1, 0, none⟩)]) rfl trivial (enters_of Try.func65 (by kernel_rfl) rfl)
    (sbs_stops 8 _ _ _ _ bka offa bkb offb ca cb pa pb la lb (fun k => W4.heap.size ≤ k ∨ k = W2.heap.size) (by omega) W4 b1.cell b2.cell b3.cell b4.cell (by intro h; omega) (by intro h; omega) hpa hpb hca hcb
      (fun i k x h => ⟨nfa i k x h, (HCA.out i k x h).2⟩) (fun i k x h => ⟨nfb i k x h, (HCB.out i k x h).2⟩))
    (fun h k => h.trans k (fun _ _ x => x) (fun _ _ x => x)) (chgK_b hF) (Below.refl _ _) (fun _ => rfl)
    (fun pre X => (∃ v, Boxed X W2.heap.size 35 v ∧ X.ownsRow W4.heap.size 69 5 v (diffX (pre.map (valX la lb))).length (chRow (diffX (pre.map (valX la lb)))) ∧ True) ∧ Chg (fun k => W4.heap.size ≤ k ∨ k = W2.heap.size) W4 X)
    (fun _ _ _ => False)
    (OwnFrom.and (Own.from (holdsRow_own W4.heap.size W2.heap.size 35 69 5 (fun pre : List (IxP la.length lb.length) => (diffX (pre.map (valX la lb))).length) (fun pre => chRow (diffX (pre.map (valX la lb)))) (fun _ _ => True)) _) (ownFrom_chg hF))
    (fun _ _ _ _ _ hs _ _ => hs)
    ⟨⟨_, b0, World.ownsRow_nil _ _ _ _, trivial⟩, Chg.refl _ _⟩
    (fun x => { tmps := #[.slice pa la.length ca, .slice pb lb.length cb, undef, undef, .slice none 0 0, .int .i64 0, .pointer (some ⟨W2.heap.size, 0, none⟩), ptP bka offa 2 x.1.1, ptP bkb offb 2 x.1.2, undef, .slice pa la.length ca, .bool true, .bool false, .bool false, .slice pb lb.length cb, .bool true, .bool false, .bool false, .slice pa la.length ca, .slice pb lb.length cb, .func (.func 65) #[] #[.pointer (some ⟨W2.heap.size + 1, 0, none⟩), .pointer (some ⟨W2.heap.size + 1 + 1, 0, none⟩), .pointer (some ⟨W2.heap.size + 1 + 1 + 1, 0, none⟩), .pointer (some ⟨W2.heap.size + 1 + 1 + 1 + 1, 0, none⟩)], ptP bka offa 2 x.1.1, ptP bkb offb 2 x.1.2, undef, undef, undef, undef, undef, undef, undef, undef, undef, undef], defers := [] }) ?assign ?body ?done ?stop
  case assign =>
    intro l x X K hK
    gi_wp2
    exact hK
  case body =>
    rintro l pre x X ⟨⟨v, hv, hrow, _⟩, hC⟩ hlt
    have hbt := btw_x x X (fun i k y h => ⟨cell_chg hC (HCA.out i k y h).2.1 (nfa i k y h), cell_chg hC (HCA.out i k y h).2.2 (nfa i k y h)⟩) (fun i k y h => ⟨cell_chg hC (HCB.out i k y h).2.1 (nfb i k y h), cell_chg hC (HCB.out i k y h).2.2 (nfb i k y h)⟩)
    have had := diffX_add (pre.map (valX la lb)) (valX la lb x)
    obtain ⟨c, hc⟩ : ∃ c, c = chOf (valX la lb x) := ⟨_, rfl⟩
    rw [← hc] at hbt had
    rw [show pre.map (valX la lb) ++ [valX la lb x] = (pre ++ [x]).map (valX la lb) by simp] at had
    have hlen : (diffX (pre.map (valX la lb))).length ≤ pre.length := Nat.le_trans (diffX_len _) (by simp)
    have HLEN : Hid ((diffX (pre.map (valX la lb))).length < 20000000) := keepH (by omega)
    have HIS := fun w => is_right c w
    have hcells : c.cells = [.int .u64 (c.k : Int), .bool c.had, .bool c.has, .int .u64 (c.old : Int), .int .u64 (c.new : Int)] := rfl
    have HCA2 := keepH (chRow_add (diffX (pre.map (valX la lb))) c)
    clear hc hlen
    cases hr : c.right with
    | true =>
      rw [hr] at HIS had
      rw [if_pos rfl] at had
      obtain ⟨k, had', has, old, new⟩ := c
      simp only [Ch.val, Ch.cells] at hbt HIS HCA2
      have HBT := keepH hbt
      have HI := keepH HIS
      have HAD := keepH had
      have HV : Hid (Boxed X W2.heap.size 35 v ∧ X.ownsRow W4.heap.size 69 5 v (diffX (pre.map (valX la lb))).length (chRow (diffX (pre.map (valX la lb)))) ∧ Chg (fun k => W4.heap.size ≤ k ∨ k = W2.heap.size) W4 X) := keepH ⟨hv, hrow, hC⟩
      clear hbt HIS had hr hcells hv hrow hC
      gi_wp2_with (first | (refine ⟨trivial, ?_⟩; gi_at_call 46; refine (CallsIn.inRound l (callsIn_wide.2 HBT.out)).mono ?_; clear HBT; rintro e X1 ⟨rfl, hb1⟩; have HB1 := keepH hb1; clear hb1) | (refine ⟨trivial, ?_⟩; gi_at_call 47; refine (CallsIn.inRound l (callsIn_wide.2 (HI.out _))).mono ?_; clear HI; rintro e X2 ⟨rfl, hb2⟩; have HB2 := keepH hb2; obtain ⟨e0, e1, e2, e3, e4⟩ := five_cells hb2; obtain ⟨hv2, hrow2, hC2⟩ := chg_on HV.out HB1.out hb2; have hbx := hv2.cell; have HKO := keepH (keeps_on HB1.out hb2); clear hb2) | (gi_at_builtin; refine wpListIn_append_own _ rfl _ _ 35 rfl W4.heap.size 69 i0 (.agg #[.int .u64 0, .bool false, .bool false, .int .u64 0, .int .u64 0]) 5 32 Try.underlying35 hi hz0 hz1 hz2 rfl (by decide) _ _ _ rfl (hrow2.alloc _) ⟨X2.heap.size, 0, none⟩ 1 1 [.int .u64 (k : Int), .bool had', .bool has, .int .u64 (old : Int), .int .u64 (new : Int)] rfl rfl (cells_newE _ _ rfl _ _) (by intro u hu; simp at hu; rcases hu with rfl | rfl | rfl | rfl | rfl <;> rfl) (by unfold maxLen; have := HLEN.out; omega) (by have := HLEN.out; omega) (Nat.le_trans hC2.size (by simp)) ?_; intro v' w1 hown' hgrow _; obtain ⟨g', cap', rfl⟩ := ownsRow_succ hown'; obtain ⟨hv1, hv3, hr3, hk3, hc3⟩ := box_add hv2 (by decide) hrow2 hown' hgrow hF (.inr rfl); have hc1 := hv1.cell; have hf1 := hv1.frozen))
      refine ⟨HKO.out.1.trans hk3, HKO.out.2.trans hc3 (fun _ _ x => x.elim) (fun _ _ x => x), ⟨⟨_, hv3, ?_, trivial⟩, hC2.trans hc3 (fun _ _ x => x) (fun _ _ x => x)⟩⟩
      rw [HAD.out, HCA2.out]
      simpa using hr3
    | false =>
      rw [hr] at HIS had
      rw [if_neg (by simp)] at had
      obtain ⟨k, had', has, old, new⟩ := c
      simp only [Ch.val] at hbt HIS
      have HBT := keepH hbt
      have HI := keepH HIS
      have HAD := keepH had
      have HV : Hid (Boxed X W2.heap.size 35 v ∧ X.ownsRow W4.heap.size 69 5 v (diffX (pre.map (valX la lb))).length (chRow (diffX (pre.map (valX la lb)))) ∧ Chg (fun k => W4.heap.size ≤ k ∨ k = W2.heap.size) W4 X) := keepH ⟨hv, hrow, hC⟩
      clear hbt HIS had hr hcells hv hrow hC
      gi_wp2_with (first | (refine ⟨trivial, ?_⟩; gi_at_call 46; refine (CallsIn.inRound l (callsIn_wide.2 HBT.out)).mono ?_; clear HBT; rintro e X1 ⟨rfl, hb1⟩; have HB1 := keepH hb1; clear hb1) | (refine ⟨trivial, ?_⟩; gi_at_call 47; refine (CallsIn.inRound l (callsIn_wide.2 (HI.out _))).mono ?_; clear HI; rintro e X2 ⟨rfl, hb2⟩; have HB2 := keepH hb2; have HKO := keepH (keeps_on HB1.out hb2); have HC2 := keepH (chg_on HV.out HB1.out hb2); clear hb2))
      exact ⟨HKO.out.1, HKO.out.2.mono (fun _ _ x => x.elim), ⟨⟨v, HC2.out.1, by rw [HAD.out]; exact HC2.out.2.1, trivial⟩, HC2.out.2.2⟩⟩
  case done =>
    rintro D ys X hD hS ⟨⟨v, hv, hrow, _⟩, hC⟩ hK
    have hc := hv.cell
    gi_wp2
    refine ⟨by simp, .inl ⟨_, _, rfl, run_takeDeferred hK, ?_⟩⟩
    rw [hS] at hrow
    refine ⟨_, results_tmp2 rfl _ _ _, ⟨v, rfl, row_base (ownsRow_putObj hrow _ hK rfl) HB4.out.size⟩, ?_⟩
    exact chg_belowE (((below_chgE HB4.out).trans hC (H := fun k => W.heap.size ≤ k) (fun _ _ x => x.elim) (fun k _ e => by rcases e with e | e <;> omega)).grown (grownBy_putObj' _ _ _) (fun k e _ => by cases e; omega))
  case stop =>
    rintro D c pre X _ _ h _
    exact h.elim
end Go.Proofs.Ytbmfjcdafjknaaa
