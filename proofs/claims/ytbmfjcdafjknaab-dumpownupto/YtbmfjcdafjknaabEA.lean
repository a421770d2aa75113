/- Patch of right pairs by right changes, walked. -/
import Derived.Test.YtbmfjcdafjknaabEz
import Derived.Test.YtbmfjcdafjknaabEW
import Derived.Test.YtbmfjcdafjknaabEs
namespace Go.Proofs.Ytbmfjcdafjknaab
open Go.RowKit Go.Shelf
set_option linter.unusedVariables false
attribute [local go_sem] Oper.semAt_some

theorem five_boxesG {W2 W4 : World} {t0 t1 t2 t3 t4 : TypeId} {v0 v1 v2 v3 v4 : Value} (h : W4 = (((((W2.alloc (Obj.cells #[v0] t0)).alloc (Obj.cells #[v1] t1)).alloc (Obj.cells #[v2] t2)).alloc (Obj.cells #[v3] t3)).alloc (Obj.cells #[v4] t4))) :
    Boxed W4 W2.heap.size t0 v0 ∧ Boxed W4 (W2.heap.size + 1) t1 v1 ∧ Boxed W4 (W2.heap.size + 1 + 1) t2 v2 ∧ Boxed W4 (W2.heap.size + 1 + 1 + 1) t3 v3 ∧ Boxed W4 (W2.heap.size + 1 + 1 + 1 + 1) t4 v4 ∧ Below W2.heap.size W2 W4 ∧ W4.heap.size = W2.heap.size + 5 := by
  subst h
  refine ⟨((((Boxed.new W2 t0 v0).alloc _).alloc _).alloc _).alloc _, ?_, ?_, ?_, ?_, ((((((Below.refl _ W2).alloc (Nat.le_refl _) _).alloc (by simp) _).alloc (by simp; omega) _).alloc (by simp; omega) _).alloc (by simp; omega) _), by simp⟩
  · have := Boxed.new (W2.alloc (Obj.cells #[v0] t0)) t1 v1
    rw [World.size_alloc] at this
    exact ((this.alloc _).alloc _).alloc _
  · have := Boxed.new ((W2.alloc (Obj.cells #[v0] t0)).alloc (Obj.cells #[v1] t1)) t2 v2
    simp only [World.size_alloc] at this
    exact (this.alloc _).alloc _
  · have := Boxed.new (((W2.alloc (Obj.cells #[v0] t0)).alloc (Obj.cells #[v1] t1)).alloc (Obj.cells #[v2] t2)) t3 v3
    simp only [World.size_alloc] at this
    exact this.alloc _
  · have := Boxed.new ((((W2.alloc (Obj.cells #[v0] t0)).alloc (Obj.cells #[v1] t1)).alloc (Obj.cells #[v2] t2)).alloc (Obj.cells #[v3] t3)) t4 v4
    simp only [World.size_alloc] at this
    exact this
theorem ChAt.base {W : World} {p : Option Addr} {l : List Ch} (h : ChAt W p l) : ∃ bk off, (0 < l.length → p = some ⟨bk, off, none⟩) ∧ ∀ (i : Nat) (c : Ch), l[i]? = some c → bk < W.heap.size ∧ W.cell? ⟨bk, off + i * 5, none⟩ = some (.int .u64 (c.k : Int)) ∧ W.cell? ⟨bk, off + i * 5 + 1, none⟩ = some (.bool c.had) ∧ W.cell? ⟨bk, off + i * 5 + 2, none⟩ = some (.bool c.has) ∧ W.cell? ⟨bk, off + i * 5 + 3, none⟩ = some (.int .u64 (c.old : Int)) ∧ W.cell? ⟨bk, off + i * 5 + 4, none⟩ = some (.int .u64 (c.new : Int)) := by
  rcases h with rfl | ⟨bk, off, rfl, hb, h⟩
  · exact ⟨0, 0, fun h => by simp at h, fun i c h => by simp at h⟩
  · exact ⟨bk, off, fun _ => rfl, fun i c e => ⟨hb, h i c e⟩⟩
theorem ret_end {X X1 E W4 : World} {F : Nat → Prop} {B : Nat} {t t' : TypeId} {v v' u u' : Value} (hE : E = (X1.setCell ⟨B, 0, none⟩ u).setCell ⟨B + 1, 0, none⟩ u') (hb : Below X.heap.size X X1) (h4 : Boxed X B t v) (h5 : Boxed X (B + 1) t' v') (hC : Chg F W4 X) (f4 : F B) (f5 : F (B + 1)) : KeepsOthers X E ∧ Boxed E B t u ∧ Boxed E (B + 1) t' u' ∧ Chg F W4 E := by
  subst hE
  have g4 := box_below h4 hb
  have g5 := box_below h5 hb
  exact ⟨((keepsO_below hb).trans (KeepsOthers.setCell _ _ _)).trans (KeepsOthers.setCell _ _ _), (g4.set u).kept (grownBy_setCell' _ (B + 1) u') (by simp), Boxed.set (v := v') u' (g5.kept (grownBy_setCell' _ B u) (by simp)), ((hC.trans (below_chgE hb) (fun _ _ x => x) (fun _ _ x => x.elim)).setCell (fun _ => f4) _).setCell (fun _ => f5) _⟩
theorem slice_row {X : World} {B : Nat} {e : TypeId} {s n : Nat} {v : Value} {xs : List Value} (h : X.ownsRow B e s v n xs) : ∃ p c, v = .slice p n c := by
  rcases h.2 with ⟨rfl, rfl⟩ | ⟨g, cap, cur, rfl, _⟩
  · exact ⟨none, 0, rfl⟩
  · exact ⟨_, cap, rfl⟩
theorem row_set {X E : World} {n1 B : Nat} {e : TypeId} {s n : Nat} {v u u' : Value} {xs : List Value} (hE : E = (X.setCell ⟨B, 0, none⟩ u).setCell ⟨B + 1, 0, none⟩ u') (h : X.ownsRow n1 e s v n xs) (h1 : B < n1) (h2 : B + 1 < n1) : E.ownsRow n1 e s v n xs := by
  subst hE
  refine row_kept' h (fun k hk => ?_)
  have := (h.lt k hk).1
  exact (Below.heap_setCell _ _ _ k (by show k ≠ B + 1; omega)).trans (Below.heap_setCell _ _ _ k (by show k ≠ B; omega))
theorem app_chg {X w3 : World} {F : Nat → Prop} {n1 : Nat} {e : TypeId} {s n : Nat} {v : Value} {xs : List Value} {o : Obj} (hrow : X.ownsRow n1 e s v n xs) (g : (X.drew.alloc o).grownBy w3 v.ownBlock) (hF : ∀ j, n1 ≤ j → F j) : Chg F X w3 :=
  ((Chg.refl F X).drew.alloc o).trans (grown_chgE (F := F) g (fun j e => hF j (hrow.lt j e).1)) (fun _ _ x => x) (fun _ _ x => x)
theorem box_rest {X w3 : World} {n1 B Bl : Nat} {t e : TypeId} {s n : Nat} {u v v' : Value} {xs : List Value} {o : Obj} (h : Boxed X B t u) (hrow : X.ownsRow n1 e s v n xs) (g : (X.drew.alloc o).grownBy w3 v.ownBlock) (hB : B < n1) (hne : B ≠ Bl) : Boxed (w3.setCell ⟨Bl, 0, none⟩ v') B t u := by
  have h1 : Boxed (X.drew.alloc o) B t u := Boxed.alloc (W := X.drew) h o
  refine (h1.kept g (fun e => ?_)).kept (grownBy_setCell' _ Bl v') (by simp [hne])
  have := (hrow.lt B e.symm).1
  omega
set_option maxRecDepth 100000 in
set_option maxHeartbeats 4000000 in
theorem patch_yes {W : World} {pa pb : Option Addr} {la : List (Nat × Nat)} {lb : List Ch} (HA : PairsAt W pa la) (HB : ChAt W pb lb) {ca cb : Nat} (hca : la.length ≤ ca ∧ ca ≤ 9223372036854775807) (hcb : lb.length ≤ cb ∧ cb ≤ 9223372036854775807) (hla : la.length ≤ 10000000) (hlb : lb.length ≤ 10000000) (ra : riseB la = true) (rb : rightC lb = true) :
    Calls Try.prog 11 #[.slice pa la.length ca, .slice pb lb.length cb] W fun e W' => ((∃ v out, patchM (mrg (fun y : Ch => y.k) la lb) = some out ∧ e = .returned (.tuple #[v, .int .i64 0]) ∧ W'.ownsRow W.heap.size 59 2 v out.length (prRow out)) ∨ (patchM (mrg (fun y : Ch => y.k) la lb) = none ∧ e = .returned (.tuple #[.slice none 0 0, .int .i64 4]))) ∧ Below W.heap.size W W' := by
  obtain ⟨i0, hi, hz0, hz1, hz2⟩ := info_parts infoPair
  have HC := fun W1 (h : Below W.heap.size W W1) => right_any (W := W1) (HA.chgF (below_chgE h) (fun _ _ _ x => x)) ca (by omega)
  have HD := fun W1 (h : Below W.heap.size W W1) => right_c (W := W1) (HB.below h) cb (by omega)
  have HZ : Hid (∀ a b, Below W.heap.size W ((W.alloc a).alloc b)) := keepH (fun a b => ((Below.refl _ W).alloc (Nat.le_refl _) a).alloc (by simp) b)
  rw [ra] at HC
  rw [rb] at HD
  replace HC := keepH HC
  replace HD := keepH HD
  have HAA := keepH HA
  have HBB := keepH HB
  clear HA HB ra rb
  refine (callsIn_wide (n := 9)).1 ?_
  refine callsIn_of_wp_marks Try.func11 rfl trivial ?_ rfl
  simp only [Try.ntmps11, List.size_toArray, List.length_cons, List.length_nil, Nat.reduceAdd, Nat.reduceSub, Array.replicate_succ, Array.replicate_zero, List.push_toArray, List.append_toArray, List.nil_append, List.cons_append]
  gi_wp2_with (first | (refine ⟨trivial, ?_⟩; gi_at_call 14; refine (callsIn_wide.2 (HC.out _ (HZ.out _ _))).mono ?_; clear HC; rintro e W1 ⟨rfl, hB1⟩; have B1 := keepH hB1; obtain ⟨b4, b5⟩ := two_boxes hB1; clear hB1) | (refine ⟨trivial, ?_⟩; gi_at_call 19; refine (callsIn_wide.2 (HD.out _ (below_trans (HZ.out _ _) B1.out))).mono ?_; clear HD; rintro e W2 ⟨rfl, hB2⟩; have B2 := keepH (below_trans (below_trans (HZ.out _ _) B1.out) hB2); replace b4 := box_below b4 hB2; replace b5 := box_below b5 hB2; clear hB2) | (refine ⟨trivial, ?_⟩; gi_at_call 20; refine (callsIn_wide.2 (mk_sbsC _ _ _ _ _ _ _)).mono ?_; rintro e W3 ⟨rfl, rfl⟩))
  obtain ⟨W4, hW4⟩ : ∃ X, X = (((((W2.alloc (Obj.cells #[Value.slice none 0 0] 22)).alloc (Obj.cells #[Value.slice pa la.length ca] 22)).alloc (Obj.cells #[Value.slice pb lb.length cb] 73)).alloc (Obj.cells #[Value.func (Fn.func 21) #[] #[]] 80)).alloc (Obj.cells #[Value.func (Fn.func 22) #[] #[]] 81)) := ⟨_, rfl⟩
  rw [← hW4]
  obtain ⟨q0, q1, q2, q3, q4, hB4, hs4⟩ := five_boxesG hW4
  clear hW4
  have r4 := box_below b4 hB4
  have r5 := box_below b5 hB4
  have HB4 : Hid (Below W.heap.size W W4) := keepH (below_trans B2.out hB4)
  have hsz : W.heap.size + 2 ≤ W2.heap.size := by have := b5.lt; omega
  obtain ⟨bka, offa, hpa, hAc⟩ := HAA.out.base
  obtain ⟨bkb, offb, hpb, hBc⟩ := HBB.out.base
  have hF : ∀ j, W4.heap.size ≤ j → (fun k => W4.heap.size ≤ k ∨ k = W2.heap.size ∨ k = W.heap.size ∨ k = W.heap.size + 1) j := fun j h => .inl h
  have HCA : Hid (∀ (i k x : Nat), la[i]? = some (k, x) → (bka < W.heap.size) ∧ W4.cell? ⟨bka, offa + i * 2, none⟩ = some (.int .u64 (k : Int)) ∧ W4.cell? ⟨bka, offa + i * 2 + 1, none⟩ = some (.int .u64 (x : Int))) := keepH (fun i k x h => ⟨(hAc i k x h).1, cell_chg (below_chgE HB4.out) (hAc i k x h).2.1 (fun x => x), cell_chg (below_chgE HB4.out) (hAc i k x h).2.2 (fun x => x)⟩)
  have HCB : Hid (∀ (i : Nat) (c : Ch), lb[i]? = some c → (bkb < W.heap.size) ∧ W4.cell? ⟨bkb, offb + i * 5, none⟩ = some (.int .u64 (c.k : Int)) ∧ W4.cell? ⟨bkb, offb + i * 5 + 1, none⟩ = some (.bool c.had) ∧ W4.cell? ⟨bkb, offb + i * 5 + 2, none⟩ = some (.bool c.has) ∧ W4.cell? ⟨bkb, offb + i * 5 + 3, none⟩ = some (.int .u64 (c.old : Int)) ∧ W4.cell? ⟨bkb, offb + i * 5 + 4, none⟩ = some (.int .u64 (c.new : Int))) := keepH (fun i c h => by
    obtain ⟨z, z0, z1, z2, z3, z4⟩ := hBc i c h
    have cc := below_chgE HB4.out
    exact ⟨z, cell_chg cc z0 (fun x => x), cell_chg cc z1 (fun x => x), cell_chg cc z2 (fun x => x), cell_chg cc z3 (fun x => x), cell_chg cc z4 (fun x => x)⟩)
  clear hAc hBc hB4
  have nfa : ∀ (i k y : Nat), la[i]? = some (k, y) → ¬ (W4.heap.size ≤ bka ∨ bka = W2.heap.size ∨ bka = W.heap.size ∨ bka = W.heap.size + 1) := fun i k y h => by have := (HCA.out i k y h).1; omega
  have nfb : ∀ (i : Nat) (c : Ch), lb[i]? = some c → ¬ (W4.heap.size ≤ bkb ∨ bkb = W2.heap.size ∨ bkb = W.heap.size ∨ bkb = W.heap.size + 1) := fun i c h => by have := (HCB.out i c h).1; omega
  refine wpIn_rangeFunc_ownF rfl (by omega) (gf := 51) (lb := #[.pointer (some ⟨W2.heap.size + 1, 0, none⟩), .pointer (some ⟨W2.heap.size + 1 + 1, 0, none⟩), .pointer (some ⟨W2.heap.size + 1 + 1 + 1, 0, none⟩), .pointer (some ⟨W2.heap.size + 1 + 1 + 1 + 1, 0, none⟩)]) rfl trivial (enters_of Try.func51 (by kernel_rfl) rfl)
    (sbsC_stops 8 _ _ _ _ bka offa bkb offb ca cb pa pb la lb (fun k => W4.heap.size ≤ k ∨ k = W2.heap.size ∨ k = W.heap.size ∨ k = W.heap.size + 1) (by omega) W4 q1.cell q2.cell q3.cell q4.cell (by intro h; omega) (by intro h; omega) hpa hpb hca hcb
      (fun i k x h => ⟨nfa i k x h, (HCA.out i k x h).2⟩) (fun i c h => ⟨nfb i c h, (HCB.out i c h).2⟩))
    (fun h k => h.trans k (fun _ _ x => x) (fun _ _ x => x)) (chgK_b hF) (Below.refl _ _) (fun _ => rfl)
    (fun pre X => ((∃ v, Boxed X W2.heap.size 22 v ∧ X.ownsRow W4.heap.size 59 2 v (outP (pre.map (valX la lb))).length (prRow (outP (pre.map (valX la lb)))) ∧ (patchM (pre.map (valX la lb))).isSome = true) ∧ (Boxed X W.heap.size 22 (.slice none 0 0) ∧ Boxed X (W.heap.size + 1) 24 (.int .i64 0))) ∧ Chg (fun k => W4.heap.size ≤ k ∨ k = W2.heap.size ∨ k = W.heap.size ∨ k = W.heap.size + 1) W4 X)
    (fun c pre X => c = .ret ∧ patchM (pre.map (valX la lb)) = none ∧ (Boxed X W.heap.size 22 (.slice none 0 0) ∧ Boxed X (W.heap.size + 1) 24 (.int .i64 4)) ∧ Chg (fun k => W4.heap.size ≤ k ∨ k = W2.heap.size ∨ k = W.heap.size ∨ k = W.heap.size + 1) W4 X)
    (OwnFrom.and (OwnFrom.and (Own.from (holdsRow_own W4.heap.size W2.heap.size 22 59 2 (fun pre : List (IxP la.length lb.length) => (outP (pre.map (valX la lb))).length) (fun pre => prRow (outP (pre.map (valX la lb)))) (fun pre _ => (patchM (pre.map (valX la lb))).isSome = true)) _) (OwnFrom.and (Own.from (boxed_own W.heap.size 22 (fun _ => .slice none 0 0)) _) (Own.from (boxed_own (W.heap.size + 1) 24 (fun _ => .int .i64 0)) _))) (ownFrom_chg hF))
    (fun c s A B row hs hg hr => ⟨hs.1, hs.2.1, ⟨Own.from (boxed_own W.heap.size 22 (fun _ : Unit => .slice none 0 0)) _ () A B row hs.2.2.1.1 hg hr, Own.from (boxed_own (W.heap.size + 1) 24 (fun _ : Unit => .int .i64 4)) _ () A B row hs.2.2.1.2 hg hr⟩, ownFrom_chg (β := Unit) hF () A B row hs.2.2.2 hg hr⟩)
    ⟨⟨⟨_, q0, World.ownsRow_nil _ _ _ _, rfl⟩, r4, r5⟩, Chg.refl _ _⟩
    (fun x => { tmps := #[.slice pa la.length ca, .slice pb lb.length cb, undef, undef, .pointer (some ⟨W.heap.size, 0, none⟩), .pointer (some ⟨W.heap.size + 1, 0, none⟩), .pointer (some ⟨W2.heap.size, 0, none⟩), ptP bka offa 2 x.1.1, ptP bkb offb 5 x.1.2, .slice pa la.length ca, .bool true, .bool false, .bool false, .slice pb lb.length cb, .bool true, .bool false, .bool false, .slice pa la.length ca, .slice pb lb.length cb, .func (.func 51) #[] #[.pointer (some ⟨W2.heap.size + 1, 0, none⟩), .pointer (some ⟨W2.heap.size + 1 + 1, 0, none⟩), .pointer (some ⟨W2.heap.size + 1 + 1 + 1, 0, none⟩), .pointer (some ⟨W2.heap.size + 1 + 1 + 1 + 1, 0, none⟩)], ptP bka offa 2 x.1.1, ptP bkb offb 5 x.1.2, undef, undef, undef, undef, undef, undef, undef, undef, undef, undef, undef, undef, undef, undef, undef, undef, undef, undef, undef, undef, undef, undef, undef, undef, undef, undef, undef, undef, undef, undef, undef, undef, undef, undef], defers := [] }) ?assign ?body ?done ?stop
  case assign =>
    intro l x X K hK
    gi_wp2
    exact hK
  case body =>
    rintro l pre x X ⟨⟨⟨v, hv, hrow, hsome⟩, h4, h5⟩, hC⟩ hlt
    have hmx : Try.prog.follows .mixedOrders = true := by kernel_rfl
    obtain ⟨⟨oi, oj⟩, hxi, hxj, hne⟩ := x
    cases oj with
    | none =>
      cases oi with
      | none => exact absurd rfl hne
      | some i =>
        -- R8
        have hi1 := hxi i rfl
        obtain ⟨⟨ka, xa⟩, hxa⟩ : ∃ z, la[i]? = some z := ⟨la[i], List.getElem?_eq_getElem hi1⟩
        have p0 := cell_chg hC (HCA.out i ka xa hxa).2.1 (nfa i ka xa hxa)
        have p1 := cell_chg hC (HCA.out i ka xa hxa).2.2 (nfa i ka xa hxa)
        have hcb0 := hv.cell
        have hbl := hv.lt
        have HO : Hid (outP ((pre ++ [(⟨(some i, none), hxi, hxj, hne⟩ : IxP la.length lb.length)]).map (valX la lb)) = outP (pre.map (valX la lb)) ++ [(ka, xa)]) := keepH (by
          obtain ⟨o, ho⟩ := Option.isSome_iff_exists.1 hsome
          simp [outP, patchM_snoc, ho, valX, hxa, pStep])
        have HSm : Hid ((patchM ((pre ++ [(⟨(some i, none), hxi, hxj, hne⟩ : IxP la.length lb.length)]).map (valX la lb))).isSome = true) := keepH (by
          obtain ⟨o, ho⟩ := Option.isSome_iff_exists.1 hsome
          simp [patchM_snoc, ho, valX, hxa, pStep])
        have HLN : Hid ((outP (pre.map (valX la lb))).length < 30000000) := keepH (by have := outP_len (pre.map (valX la lb)); simp at this; omega)
        simp only [ptP, Option.map]
        gi_wp2
        refine wpIn_region_round (S := (fun w => w.cell? ⟨bka, offa + i * 2, none⟩ = some (.int .u64 (ka : Int)) ∧ w.cell? ⟨bka, offa + i * 2 + 1, none⟩ = some (.int .u64 (xa : Int)))) (by kernel_rfl) (by kernel_rfl) (fun ⟨_, _, h⟩ => h) (by exact ⟨p0, p1⟩) ?_
        intro hHeld
        refine wpAnyH_take (i := 1) (v := ?_) rfl (by kernel_rfl) (by kernel_rfl) (by kernel_rfl) (fun _ _ _ h => h) (Or.inl ⟨by rfl, ?_⟩) hHeld ?_
        rotate_left
        · intro w hSw
          obtain ⟨y0, y1⟩ := hSw
          go_simp
          try with_reducible rfl
        (try simp only [Act.put]); (try simp only [List.setIfInBounds_toArray]); (repeat (first | simp only [List.set_cons_succ] | simp only [List.set_cons_zero]))
        refine wpAnyH_take (i := 2) (v := ?_) rfl (by kernel_rfl) (by kernel_rfl) (by kernel_rfl) (fun _ _ _ h => h) (Or.inl ⟨by rfl, ?_⟩) hHeld ?_
        rotate_left
        · intro w hSw
          obtain ⟨y0, y1⟩ := hSw
          go_simp
          try with_reducible rfl
        (try simp only [Act.put]); (try simp only [List.setIfInBounds_toArray]); (repeat (first | simp only [List.set_cons_succ] | simp only [List.set_cons_zero]))
        refine wpAnyH_take (i := 3) (v := ?_) rfl (by kernel_rfl) (by kernel_rfl) (by kernel_rfl) (fun _ _ _ h => h) (Or.inl ⟨by rfl, ?_⟩) hHeld ?_
        rotate_left
        · intro w hSw
          obtain ⟨y0, y1⟩ := hSw
          go_simp
          try with_reducible rfl
        (try simp only [Act.put]); (try simp only [List.setIfInBounds_toArray]); (repeat (first | simp only [List.set_cons_succ] | simp only [List.set_cons_zero]))
        refine wpAnyH_ready (rs := [0, 4]) (by kernel_rfl) (by simp) ?_
        refine AllReadyH.cons rfl (fun KK hKK => ?_) (AllReadyH.cons rfl (fun KK hKK => ?_) AllReadyH.nil)
        · go_simp
          refine hKK.out _ _ ?_ (fun hHeld => ?_)
          · exact hHeld
          clear hKK KK
          (try simp only [Act.put]); (try simp only [List.setIfInBounds_toArray]); (repeat (first | simp only [List.set_cons_succ] | simp only [List.set_cons_zero]))
          refine wpAnyH_ready (rs := [4]) (by kernel_rfl) (by simp) ?_
          refine AllReadyH.cons rfl (fun KK hKK => ?_) AllReadyH.nil
          go_simp
          refine hKK.out _ _ ?_ (fun hHeld => ?_)
          · exact ⟨cell_chg ((Chg.refl (fun k => W4.heap.size ≤ k ∨ k = W2.heap.size ∨ k = W.heap.size ∨ k = W.heap.size + 1) X).drew.alloc _) p0 (nfa i ka xa hxa), cell_chg ((Chg.refl (fun k => W4.heap.size ≤ k ∨ k = W2.heap.size ∨ k = W.heap.size ∨ k = W.heap.size + 1) X).drew.alloc _) p1 (nfa i ka xa hxa)⟩
          clear hKK KK
          (try simp only [Act.put]); (try simp only [List.setIfInBounds_toArray]); (repeat (first | simp only [List.set_cons_succ] | simp only [List.set_cons_zero]))
          refine wpAnyH_ready (rs := [5]) (by kernel_rfl) (by simp) ?_
          refine AllReadyH.cons rfl (fun KK hKK => ?_) AllReadyH.nil
          refine step_append_baseE rfl (.tmp 25) (.tmp 29) 22 rfl W4.heap.size 59 i0 (.agg #[.int .u64 0, .int .u64 0]) 2 16 Try.underlying22 hi hz0 hz1 hz2 rfl (by decide) _ _ _ rfl (row_chg0 hrow ((Chg.refl (fun _ => False) X).drew.alloc _)) ⟨X.heap.size, 0, none⟩ 1 1 [.int .u64 (ka : Int), .int .u64 (xa : Int)] rfl rfl (cells_newE _ _ rfl _ _) (by intro u hu; simp at hu; rcases hu with rfl | rfl <;> rfl) (by unfold maxLen; have := HLN.out; omega) (by have := HLN.out; omega) (Nat.le_trans hC.size (by simp [World.drew])) ?_
          intro v2 w3 r1 r2 r9
          obtain ⟨g', cap', rfl⟩ := ownsRow_succ r1
          obtain ⟨hv1, hv3, hr3, hk3, hc3⟩ := box_add (W := X.drew) hv (by decide) hrow r1 r2 hF (.inr (.inl rfl))
          have hc1 := hv1.cell
          have hf1 := hv1.frozen
          have cw := app_chg hrow r2 hF
          refine hKK.out _ _ ?_ (fun hHeld => ?_)
          · exact ⟨cell_chg cw p0 (nfa i ka xa hxa), cell_chg cw p1 (nfa i ka xa hxa)⟩
          clear hKK KK
          (try simp only [Act.put]); (try simp only [List.setIfInBounds_toArray]); (repeat (first | simp only [List.set_cons_succ] | simp only [List.set_cons_zero]))
          refine wpAnyH_ready (rs := [6]) (by kernel_rfl) (by simp) ?_
          refine AllReadyH.cons rfl (fun KK hKK => ?_) AllReadyH.nil
          go_simp
          refine hKK.out _ _ ?_ (fun hHeld => ?_)
          · exact ⟨cell_chg hc3 p0 (nfa i ka xa hxa), cell_chg hc3 p1 (nfa i ka xa hxa)⟩
          clear hKK KK
          (try simp only [Act.put]); (try simp only [List.setIfInBounds_toArray]); (repeat (first | simp only [List.set_cons_succ] | simp only [List.set_cons_zero]))
          refine wpAnyH_done (by kernel_rfl) ?_ _
          go_simp
          refine ⟨(KeepsOthers.drew X).trans hk3, (Chg.refl (fun k => W4.heap.size ≤ k ∨ k = W2.heap.size ∨ k = W.heap.size ∨ k = W.heap.size + 1) X).drew.trans hc3 (fun _ _ x => x) (fun _ _ x => x), ⟨⟨⟨_, hv3, by rw [HO.out]; simpa [prRow] using hr3, HSm.out⟩, box_rest h4 hrow r2 (by omega) (by omega), box_rest h5 hrow r2 (by omega) (by omega)⟩, hC.drew.trans hc3 (fun _ _ x => x) (fun _ _ x => x)⟩⟩
        · go_simp
          refine hKK.out _ _ ?_ (fun hHeld => ?_)
          · exact ⟨cell_chg ((Chg.refl (fun k => W4.heap.size ≤ k ∨ k = W2.heap.size ∨ k = W.heap.size ∨ k = W.heap.size + 1) X).drew.alloc _) p0 (nfa i ka xa hxa), cell_chg ((Chg.refl (fun k => W4.heap.size ≤ k ∨ k = W2.heap.size ∨ k = W.heap.size ∨ k = W.heap.size + 1) X).drew.alloc _) p1 (nfa i ka xa hxa)⟩
          clear hKK KK
          (try simp only [Act.put]); (try simp only [List.setIfInBounds_toArray]); (repeat (first | simp only [List.set_cons_succ] | simp only [List.set_cons_zero]))
          refine wpAnyH_ready (rs := [0]) (by kernel_rfl) (by simp) ?_
          refine AllReadyH.cons rfl (fun KK hKK => ?_) AllReadyH.nil
          go_simp
          refine hKK.out _ _ ?_ (fun hHeld => ?_)
          · exact hHeld
          clear hKK KK
          (try simp only [Act.put]); (try simp only [List.setIfInBounds_toArray]); (repeat (first | simp only [List.set_cons_succ] | simp only [List.set_cons_zero]))
          refine wpAnyH_ready (rs := [5]) (by kernel_rfl) (by simp) ?_
          refine AllReadyH.cons rfl (fun KK hKK => ?_) AllReadyH.nil
          refine step_append_baseE rfl (.tmp 25) (.tmp 29) 22 rfl W4.heap.size 59 i0 (.agg #[.int .u64 0, .int .u64 0]) 2 16 Try.underlying22 hi hz0 hz1 hz2 rfl (by decide) _ _ _ rfl (row_chg0 hrow ((Chg.refl (fun _ => False) X).drew.alloc _)) ⟨X.heap.size, 0, none⟩ 1 1 [.int .u64 (ka : Int), .int .u64 (xa : Int)] rfl rfl (cells_newE _ _ rfl _ _) (by intro u hu; simp at hu; rcases hu with rfl | rfl <;> rfl) (by unfold maxLen; have := HLN.out; omega) (by have := HLN.out; omega) (Nat.le_trans hC.size (by simp [World.drew])) ?_
          intro v2 w3 r1 r2 r9
          obtain ⟨g', cap', rfl⟩ := ownsRow_succ r1
          obtain ⟨hv1, hv3, hr3, hk3, hc3⟩ := box_add (W := X.drew) hv (by decide) hrow r1 r2 hF (.inr (.inl rfl))
          have hc1 := hv1.cell
          have hf1 := hv1.frozen
          have cw := app_chg hrow r2 hF
          refine hKK.out _ _ ?_ (fun hHeld => ?_)
          · exact ⟨cell_chg cw p0 (nfa i ka xa hxa), cell_chg cw p1 (nfa i ka xa hxa)⟩
          clear hKK KK
          (try simp only [Act.put]); (try simp only [List.setIfInBounds_toArray]); (repeat (first | simp only [List.set_cons_succ] | simp only [List.set_cons_zero]))
          refine wpAnyH_ready (rs := [6]) (by kernel_rfl) (by simp) ?_
          refine AllReadyH.cons rfl (fun KK hKK => ?_) AllReadyH.nil
          go_simp
          refine hKK.out _ _ ?_ (fun hHeld => ?_)
          · exact ⟨cell_chg hc3 p0 (nfa i ka xa hxa), cell_chg hc3 p1 (nfa i ka xa hxa)⟩
          clear hKK KK
          (try simp only [Act.put]); (try simp only [List.setIfInBounds_toArray]); (repeat (first | simp only [List.set_cons_succ] | simp only [List.set_cons_zero]))
          refine wpAnyH_done (by kernel_rfl) ?_ _
          go_simp
          refine ⟨(KeepsOthers.drew X).trans hk3, (Chg.refl (fun k => W4.heap.size ≤ k ∨ k = W2.heap.size ∨ k = W.heap.size ∨ k = W.heap.size + 1) X).drew.trans hc3 (fun _ _ x => x) (fun _ _ x => x), ⟨⟨⟨_, hv3, by rw [HO.out]; simpa [prRow] using hr3, HSm.out⟩, box_rest h4 hrow r2 (by omega) (by omega), box_rest h5 hrow r2 (by omega) (by omega)⟩, hC.drew.trans hc3 (fun _ _ x => x) (fun _ _ x => x)⟩⟩
    | some j =>
      cases oi with
      | none =>
        have hj1 := hxj j rfl
        obtain ⟨⟨kc, hd, hs, od, nw⟩, hxc⟩ : ∃ z, lb[j]? = some z := ⟨lb[j], List.getElem?_eq_getElem hj1⟩
        obtain ⟨z0, z1, z2, z3, z4⟩ := (HCB.out j _ hxc).2
        have e0 := cell_chg hC z0 (nfb j _ hxc)
        have e1 := cell_chg hC z1 (nfb j _ hxc)
        have e2 := cell_chg hC z2 (nfb j _ hxc)
        have e3 := cell_chg hC z3 (nfb j _ hxc)
        have e4 := cell_chg hC z4 (nfb j _ hxc)
        simp only at e0 e1 e2 e3 e4
        clear z0 z1 z2 z3 z4
        have HF := fits_none ⟨kc, hd, hs, od, nw⟩ X
        have HLN : Hid ((outP (pre.map (valX la lb))).length < 30000000) := keepH (by have := outP_len (pre.map (valX la lb)); simp at this; omega)
        obtain ⟨oo, hoo⟩ := Option.isSome_iff_exists.1 hsome
        have HPM : Hid (patchM ((pre ++ [(⟨(none, some j), hxi, hxj, hne⟩ : IxP la.length lb.length)]).map (valX la lb)) = (pStep (none, some ⟨kc, hd, hs, od, nw⟩)).map (fun b => oo ++ b)) := keepH (by
          rw [List.map_append, List.map_cons, List.map_nil, patchM_snoc, hoo]
          simp [valX, hxc])
        have HOO : Hid (outP (pre.map (valX la lb)) = oo) := keepH (by simp [outP, hoo])
        cases hf : fitsB ⟨kc, hd, hs, od, nw⟩ none with
        | false =>
          rw [hf] at HF
          simp only [Ch.val] at HF
          replace HF := keepH HF
          have HN : Hid (patchM ((pre ++ [(⟨(none, some j), hxi, hxj, hne⟩ : IxP la.length lb.length)]).map (valX la lb)) = none) := keepH (by rw [HPM.out]; simp [pStep, hf])
          have H45 := keepH (And.intro h4 h5)
          simp only [ptP, Option.map]
          gi_wp2_with (first | (refine ⟨trivial, ?_⟩; gi_at_call 23; refine (CallsIn.inRound l (callsIn_wide.2 HF.out)).mono ?_; clear HF; rintro e X1 ⟨rfl, hb1⟩; have HB1 := keepH hb1; have c4 := (box_below H45.out.1 hb1).cell; have f4 := (box_below H45.out.1 hb1).frozen; have c5 := (box_below H45.out.2 hb1).cell; have f5 := (box_below H45.out.2 hb1).frozen; clear hb1))
          obtain ⟨E, hE⟩ : ∃ E, E = (X1.setCell ⟨W.heap.size, 0, none⟩ (.slice none 0 0)).setCell ⟨W.heap.size + 1, 0, none⟩ (.int .i64 4) := ⟨_, rfl⟩
          rw [← hE]
          obtain ⟨k1, k2, k3, k4⟩ := ret_end hE HB1.out h4 h5 hC (.inr (.inr (.inl rfl))) (.inr (.inr (.inr rfl)))
          exact ⟨k1, rfl, HN.out, ⟨k2, k3⟩, k4⟩
        | true =>
          rw [hf] at HF
          simp only [Ch.val] at HF
          replace HF := keepH HF
          have H0 := keepH (And.intro hv (And.intro hrow (And.intro h4 (And.intro h5 hC))))
          have HEE := keepH (And.intro e0 (And.intro e2 e4))
          cases hs with
          | false =>
            have HO : Hid (outP ((pre ++ [(⟨(none, some j), hxi, hxj, hne⟩ : IxP la.length lb.length)]).map (valX la lb)) = outP (pre.map (valX la lb))) := keepH (by rw [HOO.out, outP, HPM.out]; simp [pStep, hf])
            have HSm : Hid ((patchM ((pre ++ [(⟨(none, some j), hxi, hxj, hne⟩ : IxP la.length lb.length)]).map (valX la lb))).isSome = true) := keepH (by rw [HPM.out]; simp [pStep, hf])
            simp only [ptP, Option.map]
            gi_wp2_with (first | (refine ⟨trivial, ?_⟩; gi_at_call 23; refine (CallsIn.inRound l (callsIn_wide.2 HF.out)).mono ?_; clear HF; rintro e X1 ⟨rfl, hb1⟩; have HB1 := keepH hb1; have e2' := cell_chg (below_chgE hb1) HEE.out.2.1 (fun x => x); clear hb1))
            exact ⟨keepsO_below HB1.out, (below_chgE HB1.out).mono (fun _ _ x => x.elim), ⟨⟨⟨v, box_below H0.out.1 HB1.out, by rw [HO.out]; exact H0.out.2.1.kept (grown_none HB1.out) (by cases Value.ownBlock _ <;> simp), HSm.out⟩, box_below H0.out.2.2.1 HB1.out, box_below H0.out.2.2.2.1 HB1.out⟩, H0.out.2.2.2.2.trans (below_chgE HB1.out) (fun _ _ x => x) (fun _ _ x => x.elim)⟩⟩
          | true =>
            have HO : Hid (outP ((pre ++ [(⟨(none, some j), hxi, hxj, hne⟩ : IxP la.length lb.length)]).map (valX la lb)) = outP (pre.map (valX la lb)) ++ [(kc, nw)]) := keepH (by rw [HOO.out, outP, HPM.out]; simp [pStep, hf])
            have HSm : Hid ((patchM ((pre ++ [(⟨(none, some j), hxi, hxj, hne⟩ : IxP la.length lb.length)]).map (valX la lb))).isSome = true) := keepH (by rw [HPM.out]; simp [pStep, hf])
            clear hv hrow h4 h5 hC
            simp only [ptP, Option.map]
            gi_wp2_with (first | (refine ⟨trivial, ?_⟩; gi_at_call 23; refine (CallsIn.inRound l (callsIn_wide.2 HF.out)).mono ?_; clear HF; rintro e X1 ⟨rfl, hb1⟩; have HKO := keepH (keepsO_below hb1); have HCX : Hid (Chg (fun k => W4.heap.size ≤ k ∨ k = W2.heap.size ∨ k = W.heap.size ∨ k = W.heap.size + 1) X X1) := keepH ((below_chgE hb1).mono (fun _ _ x => x.elim)); have e0 := cell_chg (below_chgE hb1) HEE.out.1 (fun x => x); have e2' := cell_chg (below_chgE hb1) HEE.out.2.1 (fun x => x); have e4 := cell_chg (below_chgE hb1) HEE.out.2.2 (fun x => x); have hv := box_below H0.out.1 hb1; have hrow := row_chg0 H0.out.2.1 (below_chgE hb1); have h4 := box_below H0.out.2.2.1 hb1; have h5 := box_below H0.out.2.2.2.1 hb1; have hC := H0.out.2.2.2.2.trans (below_chgE hb1) (fun _ _ x => x) (fun _ _ x => x.elim); have hcb0 := hv.cell; have hbl := hv.lt; clear hb1))
            refine wpIn_region_round (S := (fun w => w.cell? ⟨bkb, offb + j * 5, none⟩ = some (.int .u64 (kc : Int)) ∧ w.cell? ⟨bkb, offb + j * 5 + 4, none⟩ = some (.int .u64 (nw : Int)))) (by kernel_rfl) (by kernel_rfl) (fun ⟨_, _, h⟩ => h) (by exact ⟨e0, e4⟩) ?_
            intro hHeld
            refine wpAnyH_take (i := 1) (v := ?_) rfl (by kernel_rfl) (by kernel_rfl) (by kernel_rfl) (fun _ _ _ h => h) (Or.inl ⟨by rfl, ?_⟩) hHeld ?_
            rotate_left
            · intro w hSw
              obtain ⟨y0, y1⟩ := hSw
              go_simp
              try with_reducible rfl
            (try simp only [Act.put]); (try simp only [List.setIfInBounds_toArray]); (repeat (first | simp only [List.set_cons_succ] | simp only [List.set_cons_zero]))
            refine wpAnyH_take (i := 2) (v := ?_) rfl (by kernel_rfl) (by kernel_rfl) (by kernel_rfl) (fun _ _ _ h => h) (Or.inl ⟨by rfl, ?_⟩) hHeld ?_
            rotate_left
            · intro w hSw
              obtain ⟨y0, y1⟩ := hSw
              go_simp
              try with_reducible rfl
            (try simp only [Act.put]); (try simp only [List.setIfInBounds_toArray]); (repeat (first | simp only [List.set_cons_succ] | simp only [List.set_cons_zero]))
            refine wpAnyH_take (i := 3) (v := ?_) rfl (by kernel_rfl) (by kernel_rfl) (by kernel_rfl) (fun _ _ _ h => h) (Or.inl ⟨by rfl, ?_⟩) hHeld ?_
            rotate_left
            · intro w hSw
              obtain ⟨y0, y1⟩ := hSw
              go_simp
              try with_reducible rfl
            (try simp only [Act.put]); (try simp only [List.setIfInBounds_toArray]); (repeat (first | simp only [List.set_cons_succ] | simp only [List.set_cons_zero]))
            refine wpAnyH_take (i := 4) (v := ?_) rfl (by kernel_rfl) (by kernel_rfl) (by kernel_rfl) (fun _ _ _ h => h) (Or.inl ⟨by rfl, ?_⟩) hHeld ?_
            rotate_left
            · intro w hSw
              obtain ⟨y0, y1⟩ := hSw
              go_simp
              try with_reducible rfl
            (try simp only [Act.put]); (try simp only [List.setIfInBounds_toArray]); (repeat (first | simp only [List.set_cons_succ] | simp only [List.set_cons_zero]))
            refine wpAnyH_take (i := 5) (v := ?_) rfl (by kernel_rfl) (by kernel_rfl) (by kernel_rfl) (fun _ _ _ h => h) (Or.inl ⟨by rfl, ?_⟩) hHeld ?_
            rotate_left
            · intro w hSw
              obtain ⟨y0, y1⟩ := hSw
              go_simp
              try with_reducible rfl
            (try simp only [Act.put]); (try simp only [List.setIfInBounds_toArray]); (repeat (first | simp only [List.set_cons_succ] | simp only [List.set_cons_zero]))
            refine wpAnyH_take (i := 6) (v := ?_) rfl (by kernel_rfl) (by kernel_rfl) (by kernel_rfl) (fun _ _ _ h => h) (Or.inl ⟨by rfl, ?_⟩) hHeld ?_
            rotate_left
            · intro w hSw
              obtain ⟨y0, y1⟩ := hSw
              go_simp
              try with_reducible rfl
            (try simp only [Act.put]); (try simp only [List.setIfInBounds_toArray]); (repeat (first | simp only [List.set_cons_succ] | simp only [List.set_cons_zero]))
            refine wpAnyH_take (i := 7) (v := ?_) rfl (by kernel_rfl) (by kernel_rfl) (by kernel_rfl) (fun _ _ _ h => h) (Or.inl ⟨by rfl, ?_⟩) hHeld ?_
            rotate_left
            · intro w hSw
              obtain ⟨y0, y1⟩ := hSw
              go_simp
              try with_reducible rfl
            (try simp only [Act.put]); (try simp only [List.setIfInBounds_toArray]); (repeat (first | simp only [List.set_cons_succ] | simp only [List.set_cons_zero]))
            refine wpAnyH_take (i := 8) (v := ?_) rfl (by kernel_rfl) (by kernel_rfl) (by kernel_rfl) (fun _ _ _ h => h) (Or.inl ⟨by rfl, ?_⟩) hHeld ?_
            rotate_left
            · intro w hSw
              obtain ⟨y0, y1⟩ := hSw
              go_simp
              try with_reducible rfl
            (try simp only [Act.put]); (try simp only [List.setIfInBounds_toArray]); (repeat (first | simp only [List.set_cons_succ] | simp only [List.set_cons_zero]))
            refine wpAnyH_take (i := 9) (v := ?_) rfl (by kernel_rfl) (by kernel_rfl) (by kernel_rfl) (fun _ _ _ h => h) (Or.inl ⟨by rfl, ?_⟩) hHeld ?_
            rotate_left
            · intro w hSw
              obtain ⟨y0, y1⟩ := hSw
              go_simp
              try with_reducible rfl
            (try simp only [Act.put]); (try simp only [List.setIfInBounds_toArray]); (repeat (first | simp only [List.set_cons_succ] | simp only [List.set_cons_zero]))
            refine wpAnyH_ready (rs := [0, 10]) (by kernel_rfl) (by simp) ?_
            refine AllReadyH.cons rfl (fun KK hKK => ?_) (AllReadyH.cons rfl (fun KK hKK => ?_) AllReadyH.nil)
            · go_simp
              refine hKK.out _ _ ?_ (fun hHeld => ?_)
              · exact hHeld
              clear hKK KK
              (try simp only [Act.put]); (try simp only [List.setIfInBounds_toArray]); (repeat (first | simp only [List.set_cons_succ] | simp only [List.set_cons_zero]))
              refine wpAnyH_ready (rs := [10]) (by kernel_rfl) (by simp) ?_
              refine AllReadyH.cons rfl (fun KK hKK => ?_) AllReadyH.nil
              go_simp
              refine hKK.out _ _ ?_ (fun hHeld => ?_)
              · exact ⟨cell_chg ((Chg.refl (fun k => W4.heap.size ≤ k ∨ k = W2.heap.size ∨ k = W.heap.size ∨ k = W.heap.size + 1) X1).drew.alloc _) e0 (nfb j _ hxc), cell_chg ((Chg.refl (fun k => W4.heap.size ≤ k ∨ k = W2.heap.size ∨ k = W.heap.size ∨ k = W.heap.size + 1) X1).drew.alloc _) e4 (nfb j _ hxc)⟩
              clear hKK KK
              (try simp only [Act.put]); (try simp only [List.setIfInBounds_toArray]); (repeat (first | simp only [List.set_cons_succ] | simp only [List.set_cons_zero]))
              refine wpAnyH_ready (rs := [11]) (by kernel_rfl) (by simp) ?_
              refine AllReadyH.cons rfl (fun KK hKK => ?_) AllReadyH.nil
              refine step_append_baseE rfl (.tmp 43) (.tmp 53) 22 rfl W4.heap.size 59 i0 (.agg #[.int .u64 0, .int .u64 0]) 2 16 Try.underlying22 hi hz0 hz1 hz2 rfl (by decide) _ _ _ rfl (row_chg0 hrow ((Chg.refl (fun _ => False) X1).drew.alloc _)) ⟨X1.heap.size, 0, none⟩ 1 1 [.int .u64 (kc : Int), .int .u64 (nw : Int)] rfl rfl (cells_newE _ _ rfl _ _) (by intro u hu; simp at hu; rcases hu with rfl | rfl <;> rfl) (by unfold maxLen; have := HLN.out; omega) (by have := HLN.out; omega) (Nat.le_trans hC.size (by simp [World.drew])) ?_
              intro v2 w3 r1 r2 r9
              obtain ⟨g', cap', rfl⟩ := ownsRow_succ r1
              obtain ⟨hv1, hv3, hr3, hk3, hc3⟩ := box_add (W := X1.drew) hv (by decide) hrow r1 r2 hF (.inr (.inl rfl))
              have hc1 := hv1.cell
              have hf1 := hv1.frozen
              have cw := app_chg hrow r2 hF
              refine hKK.out _ _ ?_ (fun hHeld => ?_)
              · exact ⟨cell_chg cw e0 (nfb j _ hxc), cell_chg cw e4 (nfb j _ hxc)⟩
              clear hKK KK
              (try simp only [Act.put]); (try simp only [List.setIfInBounds_toArray]); (repeat (first | simp only [List.set_cons_succ] | simp only [List.set_cons_zero]))
              refine wpAnyH_ready (rs := [12]) (by kernel_rfl) (by simp) ?_
              refine AllReadyH.cons rfl (fun KK hKK => ?_) AllReadyH.nil
              go_simp
              refine hKK.out _ _ ?_ (fun hHeld => ?_)
              · exact ⟨cell_chg hc3 e0 (nfb j _ hxc), cell_chg hc3 e4 (nfb j _ hxc)⟩
              clear hKK KK
              (try simp only [Act.put]); (try simp only [List.setIfInBounds_toArray]); (repeat (first | simp only [List.set_cons_succ] | simp only [List.set_cons_zero]))
              refine wpAnyH_done (by kernel_rfl) ?_ _
              go_simp
              refine ⟨(HKO.out.trans (KeepsOthers.drew X1)).trans hk3, HCX.out.drew.trans hc3 (fun _ _ x => x) (fun _ _ x => x), ⟨⟨⟨_, hv3, by rw [HO.out]; simpa [prRow] using hr3, HSm.out⟩, box_rest h4 hrow r2 (by omega) (by omega), box_rest h5 hrow r2 (by omega) (by omega)⟩, hC.drew.trans hc3 (fun _ _ x => x) (fun _ _ x => x)⟩⟩
            · go_simp
              refine hKK.out _ _ ?_ (fun hHeld => ?_)
              · exact ⟨cell_chg ((Chg.refl (fun k => W4.heap.size ≤ k ∨ k = W2.heap.size ∨ k = W.heap.size ∨ k = W.heap.size + 1) X1).drew.alloc _) e0 (nfb j _ hxc), cell_chg ((Chg.refl (fun k => W4.heap.size ≤ k ∨ k = W2.heap.size ∨ k = W.heap.size ∨ k = W.heap.size + 1) X1).drew.alloc _) e4 (nfb j _ hxc)⟩
              clear hKK KK
              (try simp only [Act.put]); (try simp only [List.setIfInBounds_toArray]); (repeat (first | simp only [List.set_cons_succ] | simp only [List.set_cons_zero]))
              refine wpAnyH_ready (rs := [0]) (by kernel_rfl) (by simp) ?_
              refine AllReadyH.cons rfl (fun KK hKK => ?_) AllReadyH.nil
              go_simp
              refine hKK.out _ _ ?_ (fun hHeld => ?_)
              · exact hHeld
              clear hKK KK
              (try simp only [Act.put]); (try simp only [List.setIfInBounds_toArray]); (repeat (first | simp only [List.set_cons_succ] | simp only [List.set_cons_zero]))
              refine wpAnyH_ready (rs := [11]) (by kernel_rfl) (by simp) ?_
              refine AllReadyH.cons rfl (fun KK hKK => ?_) AllReadyH.nil
              refine step_append_baseE rfl (.tmp 43) (.tmp 53) 22 rfl W4.heap.size 59 i0 (.agg #[.int .u64 0, .int .u64 0]) 2 16 Try.underlying22 hi hz0 hz1 hz2 rfl (by decide) _ _ _ rfl (row_chg0 hrow ((Chg.refl (fun _ => False) X1).drew.alloc _)) ⟨X1.heap.size, 0, none⟩ 1 1 [.int .u64 (kc : Int), .int .u64 (nw : Int)] rfl rfl (cells_newE _ _ rfl _ _) (by intro u hu; simp at hu; rcases hu with rfl | rfl <;> rfl) (by unfold maxLen; have := HLN.out; omega) (by have := HLN.out; omega) (Nat.le_trans hC.size (by simp [World.drew])) ?_
              intro v2 w3 r1 r2 r9
              obtain ⟨g', cap', rfl⟩ := ownsRow_succ r1
              obtain ⟨hv1, hv3, hr3, hk3, hc3⟩ := box_add (W := X1.drew) hv (by decide) hrow r1 r2 hF (.inr (.inl rfl))
              have hc1 := hv1.cell
              have hf1 := hv1.frozen
              have cw := app_chg hrow r2 hF
              refine hKK.out _ _ ?_ (fun hHeld => ?_)
              · exact ⟨cell_chg cw e0 (nfb j _ hxc), cell_chg cw e4 (nfb j _ hxc)⟩
              clear hKK KK
              (try simp only [Act.put]); (try simp only [List.setIfInBounds_toArray]); (repeat (first | simp only [List.set_cons_succ] | simp only [List.set_cons_zero]))
              refine wpAnyH_ready (rs := [12]) (by kernel_rfl) (by simp) ?_
              refine AllReadyH.cons rfl (fun KK hKK => ?_) AllReadyH.nil
              go_simp
              refine hKK.out _ _ ?_ (fun hHeld => ?_)
              · exact ⟨cell_chg hc3 e0 (nfb j _ hxc), cell_chg hc3 e4 (nfb j _ hxc)⟩
              clear hKK KK
              (try simp only [Act.put]); (try simp only [List.setIfInBounds_toArray]); (repeat (first | simp only [List.set_cons_succ] | simp only [List.set_cons_zero]))
              refine wpAnyH_done (by kernel_rfl) ?_ _
              go_simp
              refine ⟨(HKO.out.trans (KeepsOthers.drew X1)).trans hk3, HCX.out.drew.trans hc3 (fun _ _ x => x) (fun _ _ x => x), ⟨⟨⟨_, hv3, by rw [HO.out]; simpa [prRow] using hr3, HSm.out⟩, box_rest h4 hrow r2 (by omega) (by omega), box_rest h5 hrow r2 (by omega) (by omega)⟩, hC.drew.trans hc3 (fun _ _ x => x) (fun _ _ x => x)⟩⟩
      | some i =>
        have hj1 := hxj j rfl
        obtain ⟨⟨kc, hd, hs, od, nw⟩, hxc⟩ : ∃ z, lb[j]? = some z := ⟨lb[j], List.getElem?_eq_getElem hj1⟩
        obtain ⟨z0, z1, z2, z3, z4⟩ := (HCB.out j _ hxc).2
        have e0 := cell_chg hC z0 (nfb j _ hxc)
        have e1 := cell_chg hC z1 (nfb j _ hxc)
        have e2 := cell_chg hC z2 (nfb j _ hxc)
        have e3 := cell_chg hC z3 (nfb j _ hxc)
        have e4 := cell_chg hC z4 (nfb j _ hxc)
        simp only at e0 e1 e2 e3 e4
        clear z0 z1 z2 z3 z4
        have hi1 := hxi i rfl
        obtain ⟨⟨ka, xa⟩, hxa⟩ : ∃ z, la[i]? = some z := ⟨la[i], List.getElem?_eq_getElem hi1⟩
        have p0 := cell_chg hC (HCA.out i ka xa hxa).2.1 (nfa i ka xa hxa)
        have p1 := cell_chg hC (HCA.out i ka xa hxa).2.2 (nfa i ka xa hxa)
        have HF := fits_some ⟨kc, hd, hs, od, nw⟩ bka (offa + i * 2) ka xa X p0 p1
        have HLN : Hid ((outP (pre.map (valX la lb))).length < 30000000) := keepH (by have := outP_len (pre.map (valX la lb)); simp at this; omega)
        obtain ⟨oo, hoo⟩ := Option.isSome_iff_exists.1 hsome
        have HPM : Hid (patchM ((pre ++ [(⟨(some i, some j), hxi, hxj, hne⟩ : IxP la.length lb.length)]).map (valX la lb)) = (pStep ((some (ka, xa)), some ⟨kc, hd, hs, od, nw⟩)).map (fun b => oo ++ b)) := keepH (by
          rw [List.map_append, List.map_cons, List.map_nil, patchM_snoc, hoo]
          simp [valX, hxc, hxa])
        have HOO : Hid (outP (pre.map (valX la lb)) = oo) := keepH (by simp [outP, hoo])
        cases hf : fitsB ⟨kc, hd, hs, od, nw⟩ (some (ka, xa)) with
        | false =>
          rw [hf] at HF
          simp only [Ch.val] at HF
          replace HF := keepH HF
          have HN : Hid (patchM ((pre ++ [(⟨(some i, some j), hxi, hxj, hne⟩ : IxP la.length lb.length)]).map (valX la lb)) = none) := keepH (by rw [HPM.out]; simp [pStep, hf])
          have H45 := keepH (And.intro h4 h5)
          simp only [ptP, Option.map]
          gi_wp2_with (first | (refine ⟨trivial, ?_⟩; gi_at_call 23; refine (CallsIn.inRound l (callsIn_wide.2 HF.out)).mono ?_; clear HF; rintro e X1 ⟨rfl, hb1⟩; have HB1 := keepH hb1; have c4 := (box_below H45.out.1 hb1).cell; have f4 := (box_below H45.out.1 hb1).frozen; have c5 := (box_below H45.out.2 hb1).cell; have f5 := (box_below H45.out.2 hb1).frozen; clear hb1))
          obtain ⟨E, hE⟩ : ∃ E, E = (X1.setCell ⟨W.heap.size, 0, none⟩ (.slice none 0 0)).setCell ⟨W.heap.size + 1, 0, none⟩ (.int .i64 4) := ⟨_, rfl⟩
          rw [← hE]
          obtain ⟨k1, k2, k3, k4⟩ := ret_end hE HB1.out h4 h5 hC (.inr (.inr (.inl rfl))) (.inr (.inr (.inr rfl)))
          exact ⟨k1, rfl, HN.out, ⟨k2, k3⟩, k4⟩
        | true =>
          rw [hf] at HF
          simp only [Ch.val] at HF
          replace HF := keepH HF
          have H0 := keepH (And.intro hv (And.intro hrow (And.intro h4 (And.intro h5 hC))))
          have HEE := keepH (And.intro e0 (And.intro e2 e4))
          cases hs with
          | false =>
            have HO : Hid (outP ((pre ++ [(⟨(some i, some j), hxi, hxj, hne⟩ : IxP la.length lb.length)]).map (valX la lb)) = outP (pre.map (valX la lb))) := keepH (by rw [HOO.out, outP, HPM.out]; simp [pStep, hf])
            have HSm : Hid ((patchM ((pre ++ [(⟨(some i, some j), hxi, hxj, hne⟩ : IxP la.length lb.length)]).map (valX la lb))).isSome = true) := keepH (by rw [HPM.out]; simp [pStep, hf])
            simp only [ptP, Option.map]
            gi_wp2_with (first | (refine ⟨trivial, ?_⟩; gi_at_call 23; refine (CallsIn.inRound l (callsIn_wide.2 HF.out)).mono ?_; clear HF; rintro e X1 ⟨rfl, hb1⟩; have HB1 := keepH hb1; have e2' := cell_chg (below_chgE hb1) HEE.out.2.1 (fun x => x); clear hb1))
            exact ⟨keepsO_below HB1.out, (below_chgE HB1.out).mono (fun _ _ x => x.elim), ⟨⟨⟨v, box_below H0.out.1 HB1.out, by rw [HO.out]; exact H0.out.2.1.kept (grown_none HB1.out) (by cases Value.ownBlock _ <;> simp), HSm.out⟩, box_below H0.out.2.2.1 HB1.out, box_below H0.out.2.2.2.1 HB1.out⟩, H0.out.2.2.2.2.trans (below_chgE HB1.out) (fun _ _ x => x) (fun _ _ x => x.elim)⟩⟩
          | true =>
            have HO : Hid (outP ((pre ++ [(⟨(some i, some j), hxi, hxj, hne⟩ : IxP la.length lb.length)]).map (valX la lb)) = outP (pre.map (valX la lb)) ++ [(kc, nw)]) := keepH (by rw [HOO.out, outP, HPM.out]; simp [pStep, hf])
            have HSm : Hid ((patchM ((pre ++ [(⟨(some i, some j), hxi, hxj, hne⟩ : IxP la.length lb.length)]).map (valX la lb))).isSome = true) := keepH (by rw [HPM.out]; simp [pStep, hf])
            clear hv hrow h4 h5 hC
            simp only [ptP, Option.map]
            gi_wp2_with (first | (refine ⟨trivial, ?_⟩; gi_at_call 23; refine (CallsIn.inRound l (callsIn_wide.2 HF.out)).mono ?_; clear HF; rintro e X1 ⟨rfl, hb1⟩; have HKO := keepH (keepsO_below hb1); have HCX : Hid (Chg (fun k => W4.heap.size ≤ k ∨ k = W2.heap.size ∨ k = W.heap.size ∨ k = W.heap.size + 1) X X1) := keepH ((below_chgE hb1).mono (fun _ _ x => x.elim)); have e0 := cell_chg (below_chgE hb1) HEE.out.1 (fun x => x); have e2' := cell_chg (below_chgE hb1) HEE.out.2.1 (fun x => x); have e4 := cell_chg (below_chgE hb1) HEE.out.2.2 (fun x => x); have hv := box_below H0.out.1 hb1; have hrow := row_chg0 H0.out.2.1 (below_chgE hb1); have h4 := box_below H0.out.2.2.1 hb1; have h5 := box_below H0.out.2.2.2.1 hb1; have hC := H0.out.2.2.2.2.trans (below_chgE hb1) (fun _ _ x => x) (fun _ _ x => x.elim); have hcb0 := hv.cell; have hbl := hv.lt; clear hb1))
            refine wpIn_region_round (S := (fun w => w.cell? ⟨bkb, offb + j * 5, none⟩ = some (.int .u64 (kc : Int)) ∧ w.cell? ⟨bkb, offb + j * 5 + 4, none⟩ = some (.int .u64 (nw : Int)))) (by kernel_rfl) (by kernel_rfl) (fun ⟨_, _, h⟩ => h) (by exact ⟨e0, e4⟩) ?_
            intro hHeld
            refine wpAnyH_take (i := 1) (v := ?_) rfl (by kernel_rfl) (by kernel_rfl) (by kernel_rfl) (fun _ _ _ h => h) (Or.inl ⟨by rfl, ?_⟩) hHeld ?_
            rotate_left
            · intro w hSw
              obtain ⟨y0, y1⟩ := hSw
              go_simp
              try with_reducible rfl
            (try simp only [Act.put]); (try simp only [List.setIfInBounds_toArray]); (repeat (first | simp only [List.set_cons_succ] | simp only [List.set_cons_zero]))
            refine wpAnyH_take (i := 2) (v := ?_) rfl (by kernel_rfl) (by kernel_rfl) (by kernel_rfl) (fun _ _ _ h => h) (Or.inl ⟨by rfl, ?_⟩) hHeld ?_
            rotate_left
            · intro w hSw
              obtain ⟨y0, y1⟩ := hSw
              go_simp
              try with_reducible rfl
            (try simp only [Act.put]); (try simp only [List.setIfInBounds_toArray]); (repeat (first | simp only [List.set_cons_succ] | simp only [List.set_cons_zero]))
            refine wpAnyH_take (i := 3) (v := ?_) rfl (by kernel_rfl) (by kernel_rfl) (by kernel_rfl) (fun _ _ _ h => h) (Or.inl ⟨by rfl, ?_⟩) hHeld ?_
            rotate_left
            · intro w hSw
              obtain ⟨y0, y1⟩ := hSw
              go_simp
              try with_reducible rfl
            (try simp only [Act.put]); (try simp only [List.setIfInBounds_toArray]); (repeat (first | simp only [List.set_cons_succ] | simp only [List.set_cons_zero]))
            refine wpAnyH_take (i := 4) (v := ?_) rfl (by kernel_rfl) (by kernel_rfl) (by kernel_rfl) (fun _ _ _ h => h) (Or.inl ⟨by rfl, ?_⟩) hHeld ?_
            rotate_left
            · intro w hSw
              obtain ⟨y0, y1⟩ := hSw
              go_simp
              try with_reducible rfl
            (try simp only [Act.put]); (try simp only [List.setIfInBounds_toArray]); (repeat (first | simp only [List.set_cons_succ] | simp only [List.set_cons_zero]))
            refine wpAnyH_take (i := 5) (v := ?_) rfl (by kernel_rfl) (by kernel_rfl) (by kernel_rfl) (fun _ _ _ h => h) (Or.inl ⟨by rfl, ?_⟩) hHeld ?_
            rotate_left
            · intro w hSw
              obtain ⟨y0, y1⟩ := hSw
              go_simp
              try with_reducible rfl
            (try simp only [Act.put]); (try simp only [List.setIfInBounds_toArray]); (repeat (first | simp only [List.set_cons_succ] | simp only [List.set_cons_zero]))
            refine wpAnyH_take (i := 6) (v := ?_) rfl (by kernel_rfl) (by kernel_rfl) (by kernel_rfl) (fun _ _ _ h => h) (Or.inl ⟨by rfl, ?_⟩) hHeld ?_
            rotate_left
            · intro w hSw
              obtain ⟨y0, y1⟩ := hSw
              go_simp
              try with_reducible rfl
            (try simp only [Act.put]); (try simp only [List.setIfInBounds_toArray]); (repeat (first | simp only [List.set_cons_succ] | simp only [List.set_cons_zero]))
            refine wpAnyH_take (i := 7) (v := ?_) rfl (by kernel_rfl) (by kernel_rfl) (by kernel_rfl) (fun _ _ _ h => h) (Or.inl ⟨by rfl, ?_⟩) hHeld ?_
            rotate_left
            · intro w hSw
              obtain ⟨y0, y1⟩ := hSw
              go_simp
              try with_reducible rfl
            (try simp only [Act.put]); (try simp only [List.setIfInBounds_toArray]); (repeat (first | simp only [List.set_cons_succ] | simp only [List.set_cons_zero]))
            refine wpAnyH_take (i := 8) (v := ?_) rfl (by kernel_rfl) (by kernel_rfl) (by kernel_rfl) (fun _ _ _ h => h) (Or.inl ⟨by rfl, ?_⟩) hHeld ?_
            rotate_left
            · intro w hSw
              obtain ⟨y0, y1⟩ := hSw
              go_simp
              try with_reducible rfl
            (try simp only [Act.put]); (try simp only [List.setIfInBounds_toArray]); (repeat (first | simp only [List.set_cons_succ] | simp only [List.set_cons_zero]))
            refine wpAnyH_take (i := 9) (v := ?_) rfl (by kernel_rfl) (by kernel_rfl) (by kernel_rfl) (fun _ _ _ h => h) (Or.inl ⟨by rfl, ?_⟩) hHeld ?_
            rotate_left
            · intro w hSw
              obtain ⟨y0, y1⟩ := hSw
              go_simp
              try with_reducible rfl
            (try simp only [Act.put]); (try simp only [List.setIfInBounds_toArray]); (repeat (first | simp only [List.set_cons_succ] | simp only [List.set_cons_zero]))
            refine wpAnyH_ready (rs := [0, 10]) (by kernel_rfl) (by simp) ?_
            refine AllReadyH.cons rfl (fun KK hKK => ?_) (AllReadyH.cons rfl (fun KK hKK => ?_) AllReadyH.nil)
            · go_simp
              refine hKK.out _ _ ?_ (fun hHeld => ?_)
              · exact hHeld
              clear hKK KK
              (try simp only [Act.put]); (try simp only [List.setIfInBounds_toArray]); (repeat (first | simp only [List.set_cons_succ] | simp only [List.set_cons_zero]))
              refine wpAnyH_ready (rs := [10]) (by kernel_rfl) (by simp) ?_
              refine AllReadyH.cons rfl (fun KK hKK => ?_) AllReadyH.nil
              go_simp
              refine hKK.out _ _ ?_ (fun hHeld => ?_)
              · exact ⟨cell_chg ((Chg.refl (fun k => W4.heap.size ≤ k ∨ k = W2.heap.size ∨ k = W.heap.size ∨ k = W.heap.size + 1) X1).drew.alloc _) e0 (nfb j _ hxc), cell_chg ((Chg.refl (fun k => W4.heap.size ≤ k ∨ k = W2.heap.size ∨ k = W.heap.size ∨ k = W.heap.size + 1) X1).drew.alloc _) e4 (nfb j _ hxc)⟩
              clear hKK KK
              (try simp only [Act.put]); (try simp only [List.setIfInBounds_toArray]); (repeat (first | simp only [List.set_cons_succ] | simp only [List.set_cons_zero]))
              refine wpAnyH_ready (rs := [11]) (by kernel_rfl) (by simp) ?_
              refine AllReadyH.cons rfl (fun KK hKK => ?_) AllReadyH.nil
              refine step_append_baseE rfl (.tmp 43) (.tmp 53) 22 rfl W4.heap.size 59 i0 (.agg #[.int .u64 0, .int .u64 0]) 2 16 Try.underlying22 hi hz0 hz1 hz2 rfl (by decide) _ _ _ rfl (row_chg0 hrow ((Chg.refl (fun _ => False) X1).drew.alloc _)) ⟨X1.heap.size, 0, none⟩ 1 1 [.int .u64 (kc : Int), .int .u64 (nw : Int)] rfl rfl (cells_newE _ _ rfl _ _) (by intro u hu; simp at hu; rcases hu with rfl | rfl <;> rfl) (by unfold maxLen; have := HLN.out; omega) (by have := HLN.out; omega) (Nat.le_trans hC.size (by simp [World.drew])) ?_
              intro v2 w3 r1 r2 r9
              obtain ⟨g', cap', rfl⟩ := ownsRow_succ r1
              obtain ⟨hv1, hv3, hr3, hk3, hc3⟩ := box_add (W := X1.drew) hv (by decide) hrow r1 r2 hF (.inr (.inl rfl))
              have hc1 := hv1.cell
              have hf1 := hv1.frozen
              have cw := app_chg hrow r2 hF
              refine hKK.out _ _ ?_ (fun hHeld => ?_)
              · exact ⟨cell_chg cw e0 (nfb j _ hxc), cell_chg cw e4 (nfb j _ hxc)⟩
              clear hKK KK
              (try simp only [Act.put]); (try simp only [List.setIfInBounds_toArray]); (repeat (first | simp only [List.set_cons_succ] | simp only [List.set_cons_zero]))
              refine wpAnyH_ready (rs := [12]) (by kernel_rfl) (by simp) ?_
              refine AllReadyH.cons rfl (fun KK hKK => ?_) AllReadyH.nil
              go_simp
              refine hKK.out _ _ ?_ (fun hHeld => ?_)
              · exact ⟨cell_chg hc3 e0 (nfb j _ hxc), cell_chg hc3 e4 (nfb j _ hxc)⟩
              clear hKK KK
              (try simp only [Act.put]); (try simp only [List.setIfInBounds_toArray]); (repeat (first | simp only [List.set_cons_succ] | simp only [List.set_cons_zero]))
              refine wpAnyH_done (by kernel_rfl) ?_ _
              go_simp
              refine ⟨(HKO.out.trans (KeepsOthers.drew X1)).trans hk3, HCX.out.drew.trans hc3 (fun _ _ x => x) (fun _ _ x => x), ⟨⟨⟨_, hv3, by rw [HO.out]; simpa [prRow] using hr3, HSm.out⟩, box_rest h4 hrow r2 (by omega) (by omega), box_rest h5 hrow r2 (by omega) (by omega)⟩, hC.drew.trans hc3 (fun _ _ x => x) (fun _ _ x => x)⟩⟩
            · go_simp
              refine hKK.out _ _ ?_ (fun hHeld => ?_)
              · exact ⟨cell_chg ((Chg.refl (fun k => W4.heap.size ≤ k ∨ k = W2.heap.size ∨ k = W.heap.size ∨ k = W.heap.size + 1) X1).drew.alloc _) e0 (nfb j _ hxc), cell_chg ((Chg.refl (fun k => W4.heap.size ≤ k ∨ k = W2.heap.size ∨ k = W.heap.size ∨ k = W.heap.size + 1) X1).drew.alloc _) e4 (nfb j _ hxc)⟩
              clear hKK KK
              (try simp only [Act.put]); (try simp only [List.setIfInBounds_toArray]); (repeat (first | simp only [List.set_cons_succ] | simp only [List.set_cons_zero]))
              refine wpAnyH_ready (rs := [0]) (by kernel_rfl) (by simp) ?_
              refine AllReadyH.cons rfl (fun KK hKK => ?_) AllReadyH.nil
              go_simp
              refine hKK.out _ _ ?_ (fun hHeld => ?_)
              · exact hHeld
              clear hKK KK
              (try simp only [Act.put]); (try simp only [List.setIfInBounds_toArray]); (repeat (first | simp only [List.set_cons_succ] | simp only [List.set_cons_zero]))
              refine wpAnyH_ready (rs := [11]) (by kernel_rfl) (by simp) ?_
              refine AllReadyH.cons rfl (fun KK hKK => ?_) AllReadyH.nil
              refine step_append_baseE rfl (.tmp 43) (.tmp 53) 22 rfl W4.heap.size 59 i0 (.agg #[.int .u64 0, .int .u64 0]) 2 16 Try.underlying22 hi hz0 hz1 hz2 rfl (by decide) _ _ _ rfl (row_chg0 hrow ((Chg.refl (fun _ => False) X1).drew.alloc _)) ⟨X1.heap.size, 0, none⟩ 1 1 [.int .u64 (kc : Int), .int .u64 (nw : Int)] rfl rfl (cells_newE _ _ rfl _ _) (by intro u hu; simp at hu; rcases hu with rfl | rfl <;> rfl) (by unfold maxLen; have := HLN.out; omega) (by have := HLN.out; omega) (Nat.le_trans hC.size (by simp [World.drew])) ?_
              intro v2 w3 r1 r2 r9
              obtain ⟨g', cap', rfl⟩ := ownsRow_succ r1
              obtain ⟨hv1, hv3, hr3, hk3, hc3⟩ := box_add (W := X1.drew) hv (by decide) hrow r1 r2 hF (.inr (.inl rfl))
              have hc1 := hv1.cell
              have hf1 := hv1.frozen
              have cw := app_chg hrow r2 hF
              refine hKK.out _ _ ?_ (fun hHeld => ?_)
              · exact ⟨cell_chg cw e0 (nfb j _ hxc), cell_chg cw e4 (nfb j _ hxc)⟩
              clear hKK KK
              (try simp only [Act.put]); (try simp only [List.setIfInBounds_toArray]); (repeat (first | simp only [List.set_cons_succ] | simp only [List.set_cons_zero]))
              refine wpAnyH_ready (rs := [12]) (by kernel_rfl) (by simp) ?_
              refine AllReadyH.cons rfl (fun KK hKK => ?_) AllReadyH.nil
              go_simp
              refine hKK.out _ _ ?_ (fun hHeld => ?_)
              · exact ⟨cell_chg hc3 e0 (nfb j _ hxc), cell_chg hc3 e4 (nfb j _ hxc)⟩
              clear hKK KK
              (try simp only [Act.put]); (try simp only [List.setIfInBounds_toArray]); (repeat (first | simp only [List.set_cons_succ] | simp only [List.set_cons_zero]))
              refine wpAnyH_done (by kernel_rfl) ?_ _
              go_simp
              refine ⟨(HKO.out.trans (KeepsOthers.drew X1)).trans hk3, HCX.out.drew.trans hc3 (fun _ _ x => x) (fun _ _ x => x), ⟨⟨⟨_, hv3, by rw [HO.out]; simpa [prRow] using hr3, HSm.out⟩, box_rest h4 hrow r2 (by omega) (by omega), box_rest h5 hrow r2 (by omega) (by omega)⟩, hC.drew.trans hc3 (fun _ _ x => x) (fun _ _ x => x)⟩⟩
  case done =>
    rintro D ys X hD hS ⟨⟨⟨v, hv, hrow, hsome⟩, h4, h5⟩, hC⟩ hK
    have HS := keepH hS
    clear hS
    obtain ⟨pv, cv, rfl⟩ := slice_row hrow
    have c6 := hv.cell
    have c4 := h4.cell
    have f4 := h4.frozen
    have c5 := h5.cell
    have f5 := h5.frozen
    have hbl := hv.lt
    gi_wp2
    obtain ⟨E, hE⟩ : ∃ E, E = (X.setCell ⟨W.heap.size, 0, none⟩ (.slice pv (outP (ys.map (valX la lb))).length cv)).setCell ⟨W.heap.size + 1, 0, none⟩ (.int .i64 0) := ⟨_, rfl⟩
    rw [← hE]
    obtain ⟨k1, k2, k3, k4⟩ := ret_end hE (Below.refl _ X) h4 h5 hC (.inr (.inr (.inl rfl))) (.inr (.inr (.inr rfl)))
    have hKE := k1.same D _ hK rfl
    refine ⟨by simp, .inl ⟨_, _, rfl, run_takeDeferred hKE, ?_⟩⟩
    have g4 := (Own.putObj (boxed_own W.heap.size 22 (fun _ : Unit => .slice pv (outP (ys.map (valX la lb))).length cv)) (s := ()) (.deferred none) k2 hKE rfl : Boxed _ _ _ _).cell
    have g5 := (Own.putObj (boxed_own (W.heap.size + 1) 24 (fun _ : Unit => .int .i64 0)) (s := ()) (.deferred none) k3 hKE rfl : Boxed _ _ _ _).cell
    refine ⟨.tuple #[.slice pv (outP (ys.map (valX la lb))).length cv, .int .i64 0], (by simp [results, Try.results11, go_sem, g4, g5]), .inl ⟨_, outP (ys.map (valX la lb)), ?_, rfl, ?_⟩, ?_⟩
    · obtain ⟨o, ho⟩ := Option.isSome_iff_exists.1 hsome
      rw [← HS.out, ho]
      simp [outP, ho]
    · refine row_base (ownsRow_putObj (row_set hE hrow (by omega) (by omega)) _ hKE rfl) HB4.out.size
    · exact chg_belowE (((below_chgE HB4.out).trans k4 (H := fun k => W.heap.size ≤ k) (fun _ _ x => x.elim) (fun k _ e => by rcases e with e | e | e | e <;> omega)).grown (grownBy_putObj' _ _ _) (fun k e _ => by cases e; omega))
  case stop =>
    rintro D c pre X hD hSp ⟨rfl, hN, ⟨h4, h5⟩, hC⟩ hK
    gi_wp2
    refine ⟨by simp, .inl ⟨_, _, rfl, run_takeDeferred hK, ?_⟩⟩
    have g4 := (Own.putObj (boxed_own W.heap.size 22 (fun _ : Unit => .slice none 0 0)) (s := ()) (.deferred none) h4 hK rfl : Boxed _ _ _ _).cell
    have g5 := (Own.putObj (boxed_own (W.heap.size + 1) 24 (fun _ : Unit => .int .i64 4)) (s := ()) (.deferred none) h5 hK rfl : Boxed _ _ _ _).cell
    obtain ⟨r, hr⟩ := hSp
    refine ⟨.tuple #[.slice none 0 0, .int .i64 4], (by simp [results, Try.results11, go_sem, g4, g5]), .inr ⟨by rw [← hr]; exact patchM_none _ r hN, rfl⟩, ?_⟩
    exact chg_belowE (((below_chgE HB4.out).trans hC (H := fun k => W.heap.size ≤ k) (fun _ _ x => x.elim) (fun k _ e => by rcases e with e | e | e | e <;> omega)).grown (grownBy_putObj' _ _ _) (fun k e _ => by cases e; omega))
end Go.Proofs.Ytbmfjcdafjknaab
