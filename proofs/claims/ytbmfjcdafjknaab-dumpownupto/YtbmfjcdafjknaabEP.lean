/- The reader's pairs. -/
import Derived.Test.YtbmfjcdafjknaabEO
import Derived.Test.YtbmfjcdafjknaabEF
import Derived.Test.YtbmfjcdafjknaabEA
namespace Go.Proofs.Ytbmfjcdafjknaab
open Go.RowKit Go.Joins
set_option linter.unusedVariables false

def lenW : Value → Nat
  | .slice _ n _ => n
  | _ => 0
theorem rdPr_adv {bs : List Nat} {i : Nat} {last : Option Nat} (hs : small8 bs) (hi : i ≤ bs.length) (hl : ∀ y, last = some y → y < 18446744073709551616) (h : (rdPr bs i last).2.1 = 0) : i + 1 ≤ (rdPr bs i last).2.2 ∧ (rdPr bs i last).1.1 < 18446744073709551616 ∧ (rdPr bs i last).1.2 < 18446744073709551616 := by
  obtain ⟨k, v, a1, a2, a3, a4, a5, a6, a7⟩ := rdPr_back hs hi hl h
  rw [a1]
  refine ⟨?_, a5, a6⟩
  have q := congrArg List.length a2
  simp only [List.length_append, List.length_drop] at q
  have := List.length_pos_iff.2 (numB_ne v)
  omega
/-- What stays while pairs are read. -/
structure QI (W wr : World) (R : Nat) (p : Option Addr) (bs : List Nat) (c n i0 j : Nat) (s : Value) (l : List (Nat × Nat)) : Prop where
  eq : rdPs bs n i0 [] = rdPs bs (n - l.length) j l
  le : l.length ≤ n
  lj : l.length ≤ j
  row : wr.ownsRow W.heap.size 59 2 s l.length (prRow l)
  sm : small64 l
  rd : Rd wr R p bs c j
  ch : Chg (fun k => k = R) W wr
  hp : ∀ b o, pB bs p = some ⟨b, o, none⟩ → b < W.heap.size
  lt : R < W.heap.size
theorem QI.len {W wr : World} {R : Nat} {p : Option Addr} {bs : List Nat} {c n i0 j : Nat} {s : Value} {l : List (Nat × Nat)} (h : QI W wr R p bs c n i0 j s l) : l.length ≤ 1000000000 := by
  have := h.lj
  have := h.rd.hi
  have := h.rd.hn
  omega
theorem QI.opened {W wr : World} {R : Nat} {p : Option Addr} {bs : List Nat} {c n i0 j : Nat} {s : Value} {l : List (Nat × Nat)} (h : QI W wr R p bs c n i0 j s l) : ∃ pq cq, s = .slice pq l.length cq ∧ PairsAt wr pq l ∧ ∀ b o, pq = some ⟨b, o, none⟩ → b ≠ R := by
  obtain ⟨pq, cq, e, hat, hb⟩ := PRow.slice (⟨h.row, h.sm⟩ : PRow wr W.heap.size s l)
  exact ⟨pq, cq, e, hat, fun b o e => by have := hb b o e; have := h.lt; omega⟩
theorem QI.at1 {W wr W1 Y : World} {R : Nat} {p : Option Addr} {bs : List Nat} {c n i0 j : Nat} {s : Value} {l : List (Nat × Nat)} (h : QI W wr R p bs c n i0 j s l) (h1 : Chg (fun k => k = R) wr W1) (h2 : Chg (fun _ => False) W1 Y) : Y.ownsRow W.heap.size 59 2 s l.length (prRow l) := by
  have c := h1.trans h2 (H := fun k => k = R) (fun _ _ x => x) (fun _ _ x => x.elim)
  exact row_kept' h.row (fun k e => c.block k (h.row.lt k e).2 (fun x => by have := (h.row.lt k e).1; have := h.lt; omega))
theorem QI.more {W wr W1 Y w3 : World} {R : Nat} {p : Option Addr} {bs : List Nat} {c n i0 j : Nat} {s v' : Value} {l : List (Nat × Nat)} {k v j' : Nat} (h : QI W wr R p bs c n i0 j s l) (hlt : l.length < n) (hr : rdPr bs j (lastK l) = ((k, v), 0, j')) (hrd : Rd W1 R p bs c j') (h1 : Chg (fun k => k = R) wr W1) (h2 : Chg (fun _ => False) W1 Y) (r1 : w3.ownsRow W.heap.size 59 2 v' (l.length + 1) (prRow l ++ [.int .u64 (k : Int), .int .u64 (v : Int)])) (r2 : Y.grownBy w3 s.ownBlock) : QI W w3 R p bs c n i0 j' v' (l ++ [(k, v)]) := by
  have ad := rdPr_adv (bs := bs) (i := j) (last := lastK l) h.rd.hb.small h.rd.hi (last_small h.sm) (by rw [hr])
  rw [hr] at ad
  simp only at ad
  have hc : Chg (fun k => W.heap.size ≤ k) W1 w3 := h2.trans (grown_chgE (F := fun j => W.heap.size ≤ j) r2 (fun j e => (h.row.lt j e).1)) (fun _ _ x => x.elim) (fun _ _ x => x)
  refine ⟨?_, by simp; omega, by have := h.lj; simp; omega, by simpa [prRow] using r1, ?_, ?_, ?_, h.hp, h.lt⟩
  · rw [h.eq]
    obtain ⟨m, hm⟩ : ∃ m, n - l.length = m + 1 := ⟨n - l.length - 1, by omega⟩
    have hm2 : n - (l ++ [(k, v)]).length = m := by simp; omega
    rw [hm, hm2, rdPs, hr]
    simp
  · intro x hx
    rcases List.mem_append.1 hx with q | q
    · exact h.sm x q
    · simp at q; subst q; exact ad.2
  · exact hrd.on hc (by have := h.lt; omega) (fun b o e => by have := h.hp b o e; omega)
  · exact (h.ch.trans h1 (H := fun k => k = R) (fun _ _ x => x) (fun _ _ x => x)).trans hc (fun _ _ x => x) (fun k hk x => by omega)
theorem QI.fin {W wr : World} {R : Nat} {p : Option Addr} {bs : List Nat} {c n i0 j : Nat} {s : Value} {l : List (Nat × Nat)} (h : QI W wr R p bs c n i0 j s l) (hlt : ¬ l.length < n) : rdPs bs n i0 [] = (l, 0, j) := by
  rw [h.eq, show n - l.length = 0 by omega, rdPs]
theorem QI.bad {W wr : World} {R : Nat} {p : Option Addr} {bs : List Nat} {c n i0 j : Nat} {s : Value} {l : List (Nat × Nat)} {k v j' e : Nat} (h : QI W wr R p bs c n i0 j s l) (hlt : l.length < n) (hr : rdPr bs j (lastK l) = ((k, v), e, j')) (he : e ≠ 0) : rdPs bs n i0 [] = ([], e, j') := by
  rw [h.eq]
  obtain ⟨m, hm⟩ : ∃ m, n - l.length = m + 1 := ⟨n - l.length - 1, by omega⟩
  rw [hm, rdPs, hr, if_pos (by simpa using he)]
set_option maxRecDepth 100000 in
set_option maxHeartbeats 4000000 in
theorem rd_pairs {W : World} {R : Nat} {p : Option Addr} {bs : List Nat} {c i : Nat} (H : Rd W R p bs c i) (hp : ∀ b o, pB bs p = some ⟨b, o, none⟩ → b < W.heap.size) :
    Calls Try.prog 46 #[.pointer (some ⟨R, 0, none⟩)] W fun e W' => (∃ v, e = .returned (.tuple #[v, .int .i64 ((rdC bs i).2.1 : Int)]) ∧ W'.ownsRow W.heap.size 59 2 v (rdC bs i).1.length (prRow (rdC bs i).1) ∧ small64 (rdC bs i).1) ∧ Rd W' R p bs c (rdC bs i).2.2 ∧ Chg (fun j => j = R) W W' := by
  obtain ⟨i0, hi, hz0, hz1, hz2⟩ := info_parts infoPair
  have N1 := rd_number H
  obtain ⟨r, hr⟩ : ∃ r, r = rdN (bs.drop i) 0 0 := ⟨_, rfl⟩
  obtain ⟨n, e1, u1⟩ := r
  have hn64 : n < 18446744073709551616 := by
    have := rdN_small (bs.drop i) (fun x hx => H.hb.small x (List.mem_of_mem_drop hx))
    rw [← hr] at this
    exact this
  rw [← hr] at N1
  simp only at N1
  replace N1 := keepH N1
  have HR := keepH hr.symm
  have HL := keepH H.lt
  have HBP := keepH hp
  clear H hp hr
  by_cases he1 : e1 = 0
  · subst he1
    have HRC : Hid (rdC bs i = rdPs bs n (i + u1) []) := keepH (by unfold rdC; rw [HR.out]; simp)
    go_enter Try.func46, Try.ntmps46
    go_wp2_with (first | (go_at_call 53; refine N1.out.mono ?_; clear N1; rintro e W1 ⟨rfl, hR1, hC1⟩; have HR1 := keepH hR1; have HC1 := keepH hC1; clear hR1 hC1))
    go_loopw [6] (fun s wr => ∃ j l, lenW s = l.length ∧ l.length ≤ n ∧ Hid (QI W wr R p bs c n (i + u1) j s l)) (fun s _ => n - lenW s)
    case atStart => exact ⟨i + u1, [], rfl, by simp, keepH ⟨by simp, by simp, by simp, World.ownsRow_nil _ _ _ _, by intro x hx; simp at hx, HR1.out, HC1.out, HBP.out, HL.out⟩⟩
    case round =>
      obtain ⟨j, l, hlv, hln, HX⟩ := hrel
      have hlen := HX.out.len
      obtain ⟨pq, cq, hs, hat, hne⟩ := HX.out.opened
      subst hs
      by_cases hlt : l.length < n
      · have q1 : (l.length : Int) < (n : Int) := by omega
        have N2 := rd_pair HX.out.rd (fun b o e => Nat.lt_of_lt_of_le (HX.out.hp b o e) HX.out.ch.size) hat hne cq hlen
        obtain ⟨r2, hr2⟩ : ∃ r, r = rdPr bs j (lastK l) := ⟨_, rfl⟩
        obtain ⟨⟨k, v⟩, e2, j'⟩ := r2
        rw [← hr2] at N2
        simp only at N2
        replace N2 := keepH N2
        have HR2 := keepH hr2.symm
        clear hr2 hat hne
        by_cases he2 : e2 = 0
        · subst he2
          go_wp2_with (first
            | (go_at_call 54; refine N2.out.mono ?_; clear N2; rintro e W2 ⟨rfl, hR2, hC2⟩; have HRD := keepH hR2; have HC2 := keepH hC2; clear hR2 hC2)
            | (at_builtin; go_loud (refine wpList_append_own_at _ rfl _ _ 22 rfl W.heap.size 59 i0 (.agg #[.int .u64 0, .int .u64 0]) 2 16 Try.underlying22 hi hz0 hz1 hz2 rfl (by decide) _ _ _ rfl (HX.out.at1 HC2.out (by repeat' (first | refine Chg.setCell ?_ (fun h => absurd h (Nat.lt_irrefl _)) _ | refine Chg.alloc ?_ _ | refine chg_drewL ?_ _ | refine Chg.drew ?_ | exact Chg.refl _ _))) ⟨_, 0, none⟩ 1 1 [.int .u64 (k : Int), .int .u64 (v : Int)] rfl rfl (cells_newE _ _ (by simp) _ _) (by intro u hu; simp at hu; rcases hu with rfl | rfl <;> rfl) (by unfold maxLen; omega) (by omega) (Nat.le_trans HX.out.ch.size (Nat.le_trans HC2.out.size (Chg.size (F := fun _ => False) (by repeat' (first | refine Chg.setCell ?_ (fun h => absurd h (Nat.lt_irrefl _)) _ | refine Chg.alloc ?_ _ | refine chg_drewL ?_ _ | refine Chg.drew ?_ | exact Chg.refl _ _))))) ?_); intro v' w3 r1 r2 r3 r4; have R1 := keepH r1; have R2 := keepH (HX.out.more hlt HR2.out HRD.out HC2.out (by repeat' (first | refine Chg.setCell ?_ (fun h => absurd h (Nat.lt_irrefl _)) _ | refine Chg.alloc ?_ _ | refine chg_drewL ?_ _ | refine Chg.drew ?_ | exact Chg.refl _ _)) r1 r2); clear r1 r2 r3 r4))
          obtain ⟨pv, cv, hv'⟩ := slice_row R1.out
          subst hv'
          go_roundw
          case rel => exact ⟨j', l ++ [(k, v)], by simp [lenW], by simp; omega, keepH R2.out⟩
          case measure => simp [lenW]; omega
        · have t2 : ((e2 : Int) != 0) = true := by simp; omega
          go_wp2_with (first
            | (go_at_call 54; refine N2.out.mono ?_; clear N2; rintro e W2 ⟨rfl, hR2, hC2⟩; have HRD := keepH hR2; have HC2 := keepH hC2; clear hR2 hC2))
          go_ret2
          rw [HRC.out, HX.out.bad hlt HR2.out he2]
          exact ⟨⟨_, rfl, World.ownsRow_nil _ _ _ _, by intro x hx; simp at hx⟩, HRD.out.on (F := fun _ => False) (by repeat' (first | refine Chg.setCell ?_ (fun h => absurd h (Nat.lt_irrefl _)) _ | refine Chg.alloc ?_ _ | refine chg_drewL ?_ _ | refine Chg.drew ?_ | exact Chg.refl _ _)) (fun x => x) (fun _ _ _ x => x), (HX.out.ch.trans HC2.out (H := fun k => k = R) (fun _ _ x => x) (fun _ _ x => x)).trans (G := fun _ => False) (by repeat' (first | refine Chg.setCell ?_ (fun h => absurd h (Nat.lt_irrefl _)) _ | refine Chg.alloc ?_ _ | refine chg_drewL ?_ _ | refine Chg.drew ?_ | exact Chg.refl _ _)) (fun _ _ x => x) (fun _ _ x => x.elim)⟩
      · have q1 : ¬ (l.length : Int) < (n : Int) := by omega
        go_wp2_with fail
        go_ret2
        rw [HRC.out, HX.out.fin hlt]
        exact ⟨⟨_, rfl, HX.out.row, HX.out.sm⟩, HX.out.rd, HX.out.ch⟩
  · have t1 : ((e1 : Int) != 0) = true := by simp; omega
    have HRC : Hid (rdC bs i = ([], e1, i + u1)) := keepH (by unfold rdC; rw [HR.out]; simp [he1])
    go_enter Try.func46, Try.ntmps46
    go_wp2_with (first | (go_at_call 53; refine N1.out.mono ?_; clear N1; rintro e W1 ⟨rfl, hR1, hC1⟩; have HR1 := keepH hR1; have HC1 := keepH hC1; clear hR1 hC1))
    go_ret2
    rw [HRC.out]
    exact ⟨⟨_, rfl, World.ownsRow_nil _ _ _ _, by intro x hx; simp at hx⟩, HR1.out, HC1.out⟩
end Go.Proofs.Ytbmfjcdafjknaab
