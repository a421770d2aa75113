/- Patch: what pairs become by changes. -/
import Derived.Test.YtbmfjcdafjknaabEy
import Derived.Test.YtbmfjcdafjknaabEi
namespace Go.Proofs.Ytbmfjcdafjknaab
open Go.RowKit Go.Shelf
set_option linter.unusedVariables false
attribute [local go_sem] Oper.semAt_some

def pStep : Option (Nat × Nat) × Option Ch → Option (List (Nat × Nat))
  | (some x, none) => some [x]
  | (none, none) => some []
  | (px, some c) => if fitsB c px then some (if c.has then [(c.k, c.new)] else []) else none
def patchM : List (Option (Nat × Nat) × Option Ch) → Option (List (Nat × Nat))
  | [] => some []
  | p :: m => (pStep p).bind (fun a => (patchM m).map (fun b => a ++ b))
theorem patchM_snoc (m : List (Option (Nat × Nat) × Option Ch)) (p : Option (Nat × Nat) × Option Ch) : patchM (m ++ [p]) = (patchM m).bind (fun a => (pStep p).map (fun b => a ++ b)) := by
  induction m with
  | nil =>
    simp only [List.nil_append, patchM]
    cases pStep p <;> simp
  | cons q m ih =>
    simp only [List.cons_append, patchM, ih]
    cases pStep q <;> cases patchM m <;> cases pStep p <;> simp
theorem patchM_none (m r : List (Option (Nat × Nat) × Option Ch)) (h : patchM m = none) : patchM (m ++ r) = none := by
  induction m with
  | nil => simp [patchM] at h
  | cons q m ih =>
    simp only [List.cons_append, patchM] at h ⊢
    cases hq : pStep q with
    | none => rfl
    | some a =>
      rw [hq] at h
      cases hm : patchM m with
      | none => rw [ih hm]; rfl
      | some b => rw [hm] at h; simp at h
def outP (m : List (Option (Nat × Nat) × Option Ch)) : List (Nat × Nat) := (patchM m).getD []
theorem outP_len (m : List (Option (Nat × Nat) × Option Ch)) : (outP m).length ≤ m.length := by
  have gen : ∀ m o, patchM m = some o → o.length ≤ m.length := by
    intro m
    induction m with
    | nil => intro o h; simp [patchM] at h; subst h; simp
    | cons q m ih =>
      intro o h
      simp only [patchM, Option.bind_eq_some_iff, Option.map_eq_some_iff] at h
      obtain ⟨a, ha, b, hb, rfl⟩ := h
      have := ih b hb
      have ha' : a.length ≤ 1 := by
        obtain ⟨px, pc⟩ := q
        cases px <;> cases pc <;> simp [pStep] at ha
        · subst ha; simp
        · obtain ⟨_, ha⟩ := ha; subst ha; split <;> simp
        · subst ha; simp
        · obtain ⟨_, ha⟩ := ha; subst ha; split <;> simp
      simp
      omega
  unfold outP
  cases h : patchM m with
  | none => simp
  | some o => exact gen m o h
theorem mk_sbsC (pa pb : Option Addr) (na nb ca cb : Nat) (w : World) : Calls Try.prog 20 #[.slice pa na ca, .slice pb nb cb, .func (.func 21) #[] #[], .func (.func 22) #[] #[]] w fun e w' =>
    e = .returned (.func (.func 51) #[] #[.pointer (some ⟨w.heap.size, 0, none⟩), .pointer (some ⟨w.heap.size + 1, 0, none⟩), .pointer (some ⟨w.heap.size + 1 + 1, 0, none⟩), .pointer (some ⟨w.heap.size + 1 + 1 + 1, 0, none⟩)]) ∧
    w' = (((w.alloc (.cells #[.slice pa na ca] 22)).alloc (.cells #[.slice pb nb cb] 73)).alloc (.cells #[.func (.func 21) #[] #[]] 80)).alloc (.cells #[.func (.func 22) #[] #[]] 81) := by
  go_enter Try.func20, Try.ntmps20
  go_wp2_with fail
  go_ret
  exact ⟨rfl, rfl⟩
theorem sbsC_stops (n B1 B2 B3 B4 bka offa bkb offb ca cb : Nat) (pa pb : Option Addr) (la : List (Nat × Nat)) (lb : List Ch) (F : Nat → Prop) (hn : 3 ≤ n) (w : World)
    (h1 : w.cell? ⟨B1, 0, none⟩ = some (.slice pa la.length ca)) (h2 : w.cell? ⟨B2, 0, none⟩ = some (.slice pb lb.length cb))
    (h3 : w.cell? ⟨B3, 0, none⟩ = some (.func (.func 21) #[] #[])) (h4 : w.cell? ⟨B4, 0, none⟩ = some (.func (.func 22) #[] #[])) (f3 : ¬ F B3) (f4 : ¬ F B4)
    (hpa : 0 < la.length → pa = some ⟨bka, offa, none⟩) (hpb : 0 < lb.length → pb = some ⟨bkb, offb, none⟩) (hca : la.length ≤ ca ∧ ca ≤ 9223372036854775807) (hcb : lb.length ≤ cb ∧ cb ≤ 9223372036854775807)
    (hA : ∀ (i k x : Nat), la[i]? = some (k, x) → ¬ F bka ∧ w.cell? ⟨bka, offa + i * 2, none⟩ = some (.int .u64 (k : Int)) ∧ w.cell? ⟨bka, offa + i * 2 + 1, none⟩ = some (.int .u64 (x : Int)))
    (hB : ∀ (i : Nat) (c : Ch), lb[i]? = some c → ¬ F bkb ∧ w.cell? ⟨bkb, offb + i * 5, none⟩ = some (.int .u64 (c.k : Int)) ∧ w.cell? ⟨bkb, offb + i * 5 + 1, none⟩ = some (.bool c.had) ∧ w.cell? ⟨bkb, offb + i * 5 + 2, none⟩ = some (.bool c.has) ∧ w.cell? ⟨bkb, offb + i * 5 + 3, none⟩ = some (.int .u64 (c.old : Int)) ∧ w.cell? ⟨bkb, offb + i * 5 + 4, none⟩ = some (.int .u64 (c.new : Int))) :
    SeqStopsK Fence.wide n Try.prog 51 #[.pointer (some ⟨B1, 0, none⟩), .pointer (some ⟨B2, 0, none⟩), .pointer (some ⟨B3, 0, none⟩), .pointer (some ⟨B4, 0, none⟩)] (fun x : IxP la.length lb.length => #[ptP bka offa 2 x.1.1, ptP bkb offb 5 x.1.2]) (Chg F)
      (fun xs => xs.map (valX la lb) = mrg (fun y : Ch => y.k) la lb) (fun pre => ∃ r, pre.map (valX la lb) ++ r = mrg (fun y : Ch => y.k) la lb) (la.length + lb.length) w := fun l J Jx W hW hJ _ hY h0 => by
  have c := below_chgE hW
  exact sbsC_in n l B1 B2 B3 B4 bka offa bkb offb ca cb pa pb la lb F J Jx hn hY W hJ (cell_chg c h1 (fun x => x)) (cell_chg c h2 (fun x => x)) (cell_chg c h3 (fun x => x)) (cell_chg c h4 (fun x => x)) f3 f4 hpa hpb hca hcb
    (fun i k x h => ⟨(hA i k x h).1, cell_chg c (hA i k x h).2.1 (fun x => x), cell_chg c (hA i k x h).2.2 (fun x => x)⟩)
    (fun i x h => by
      obtain ⟨q, q0, q1, q2, q3, q4⟩ := hB i x h
      exact ⟨q, cell_chg c q0 (fun x => x), cell_chg c q1 (fun x => x), cell_chg c q2 (fun x => x), cell_chg c q3 (fun x => x), cell_chg c q4 (fun x => x)⟩) h0
theorem two_boxes {W W1 : World} {t t' : TypeId} {v v' : Value} (h : Below ((W.alloc (.cells #[v] t)).alloc (.cells #[v'] t')).heap.size ((W.alloc (.cells #[v] t)).alloc (.cells #[v'] t')) W1) : Boxed W1 W.heap.size t v ∧ Boxed W1 (W.heap.size + 1) t' v' := by
  refine ⟨box_below ((Boxed.new W t v).alloc _) h, ?_⟩
  have := Boxed.new (W.alloc (.cells #[v] t)) t' v'
  rw [World.size_alloc] at this
  exact box_below this h
theorem two_set {W W2 X : World} {B : Nat} {t t' : TypeId} {v v' u u' : Value} (hX : X = (W2.setCell ⟨B, 0, none⟩ u).setCell ⟨B + 1, 0, none⟩ u') (h4 : Boxed W2 B t v) (h5 : Boxed W2 (B + 1) t' v') (_ : True) (hb : Below W.heap.size W W2) (hB : W.heap.size ≤ B := by omega) : Boxed X B t u ∧ Boxed X (B + 1) t' u' ∧ Below W.heap.size W X := by
  subst hX
  refine ⟨(h4.set u).kept (grownBy_setCell' _ (B + 1) u') (by simp), Boxed.set (v := v') u' (h5.kept (grownBy_setCell' _ B u) (by simp)), ?_⟩
  exact chg_belowE (((below_chgE hb).mono (G := fun j => W.heap.size ≤ j) (fun _ _ x => x.elim)).setCell (fun _ => hB) _ |>.setCell (fun _ => Nat.le_succ_of_le hB) _)
set_option maxRecDepth 100000 in
set_option maxHeartbeats 4000000 in
theorem patch_no {W : World} {pa pb : Option Addr} {la : List (Nat × Nat)} {lb : List Ch} (HA : PairsAt W pa la) (HB : ChAt W pb lb) (ca cb : Nat) (hla : la.length ≤ 10000000) (hlb : lb.length ≤ 10000000) (hr : ¬ (riseB la = true ∧ rightC lb = true)) :
    Calls Try.prog 11 #[.slice pa la.length ca, .slice pb lb.length cb] W fun e W' => e = .returned (.tuple #[.slice none 0 0, .int .i64 52]) ∧ Below W.heap.size W W' := by
  have HC := keepH (fun W1 (h : Below W.heap.size W W1) => right_any (W := W1) (HA.chgF (below_chgE h) (fun _ _ _ x => x)) ca (by omega))
  have HD := keepH (fun W1 (h : Below W.heap.size W W1) => right_c (W := W1) (HB.below h) cb (by omega))
  have HZ : Hid (∀ a b, Below W.heap.size W ((W.alloc a).alloc b)) := keepH (fun a b => ((Below.refl _ W).alloc (Nat.le_refl _) a).alloc (by simp) b)
  clear HA HB
  refine (callsIn_wide (n := 9)).1 ?_
  refine callsIn_of_wp_marks Try.func11 rfl trivial ?_ rfl
  simp only [Try.ntmps11, List.size_toArray, List.length_cons, List.length_nil, Nat.reduceAdd, Nat.reduceSub, Array.replicate_succ, Array.replicate_zero, List.push_toArray, List.append_toArray, List.nil_append, List.cons_append]
  by_cases ra : riseB la = true
  · have rb : rightC lb = false := by
      cases h : rightC lb with
      | false => rfl
      | true => exact absurd ⟨ra, h⟩ hr
    rw [ra] at HC
    rw [rb] at HD
    gi_wp2_with (first | (refine ⟨trivial, ?_⟩; gi_at_call 14; refine (callsIn_wide.2 (HC.out _ (HZ.out _ _))).mono ?_; clear HC; rintro e W1 ⟨rfl, hB1⟩; have B1 := keepH hB1; obtain ⟨b4, b5⟩ := two_boxes hB1; clear hB1) | (refine ⟨trivial, ?_⟩; gi_at_call 19; refine (callsIn_wide.2 (HD.out _ (below_trans (HZ.out _ _) B1.out))).mono ?_; clear HD; rintro e W2 ⟨rfl, hB2⟩; have B2 := keepH hB2; have c4 := (box_below b4 hB2).cell; have f4 := (box_below b4 hB2).frozen; have c5 := (box_below b5 hB2).cell; have f5 := (box_below b5 hB2).frozen; clear hB2))
    obtain ⟨X, hX⟩ : ∃ X, X = (W2.setCell ⟨W.heap.size, 0, none⟩ (.slice none 0 0)).setCell ⟨W.heap.size + 1, 0, none⟩ (.int .i64 52) := ⟨_, rfl⟩
    rw [← hX]
    obtain ⟨r4, r5, hb⟩ := two_set hX (box_below b4 B2.out) (box_below b5 B2.out) trivial (below_trans (below_trans (HZ.out _ _) B1.out) B2.out)
    have g4 := r4.cell
    have g5 := r5.cell
    exact ⟨.tuple #[.slice none 0 0, .int .i64 52], (by simp [results, Try.results11, go_sem, g4, g5]), rfl, hb⟩
  · have ra : riseB la = false := by simpa using ra
    rw [ra] at HC
    gi_wp2_with (first | (refine ⟨trivial, ?_⟩; gi_at_call 14; refine (callsIn_wide.2 (HC.out _ (HZ.out _ _))).mono ?_; clear HC; rintro e W1 ⟨rfl, hB1⟩; have B1 := keepH hB1; obtain ⟨b4, b5⟩ := two_boxes hB1; have c4 := b4.cell; have f4 := b4.frozen; have c5 := b5.cell; have f5 := b5.frozen; clear hB1))
    refine ⟨trivial, ?_⟩
    gi_wp2
    obtain ⟨X, hX⟩ : ∃ X, X = (W1.setCell ⟨W.heap.size, 0, none⟩ (.slice none 0 0)).setCell ⟨W.heap.size + 1, 0, none⟩ (.int .i64 52) := ⟨_, rfl⟩
    rw [← hX]
    obtain ⟨r4, r5, hb⟩ := two_set hX b4 b5 trivial (below_trans (HZ.out _ _) B1.out)
    have g4 := r4.cell
    have g5 := r5.cell
    exact ⟨.tuple #[.slice none 0 0, .int .i64 52], (by simp [results, Try.results11, go_sem, g4, g5]), rfl, hb⟩
end Go.Proofs.Ytbmfjcdafjknaab
