/- DumpTurned, walked. -/
import Derived.Test.YtbmfjcdafjknaaaEj
import Derived.Test.YtbmfjcdafjknaaaEe
namespace Go.Proofs.Ytbmfjcdafjknaaa
open Go.RowKit Go.Joins Go.Deep
set_option linter.unusedVariables false

theorem slice_caps {H : Type} {enc : TypeId × Value → H} {W : World} {T E : TypeId} (hT : Try.prog.underlying T = some (.slice E)) {p : Option Addr} {n c : Nat} {d : DataW H} {ps : List MemPlace} (h : DataW.Trod enc Try.prog W 0 (fun _ => true) true T (.slice p n c) d ps) : n ≤ c ∧ c ≤ Rows.uptoBulk d := by
  obtain ⟨fuel, hf⟩ := h
  rcases open_slice hT hf with ⟨hcs, hx⟩ | ⟨a, len, cap, m, k, D, Pl, hcs, _, hl, hm, hme, hx, hi⟩
  · have e : p = none ∧ n = 0 ∧ c = 0 := by simpa [Value.cells] using hcs
    omega
  · have e : p = some a ∧ n = len ∧ c = cap := by simpa [Value.cells] using hcs
    obtain ⟨rfl, rfl, rfl⟩ := e
    refine ⟨hl, ?_⟩
    have hd : d = .slice ((List.range n).map D) ((List.range (m - n)).map fun j => D (n + j)) := by simpa using congrArg Prod.fst hx
    rw [if_pos rfl] at hme
    rw [hd]
    have q1 := bulk_length ((List.range n).map D)
    have q2 := bulk_length ((List.range (m - n)).map fun j => D (n + j))
    simp only [Rows.uptoBulk]
    simp only [List.length_map, List.length_range] at q1 q2
    omega
theorem mrg_len {β : Type} (kb : β → Nat) (n : Nat) : ∀ (a : List (Nat × Nat)) (b : List β), a.length + b.length ≤ n → (mrg kb a b).length ≤ a.length + b.length := by
  induction n with
  | zero =>
    intro a b h
    have ea : a = [] := List.length_eq_zero_iff.1 (by omega)
    have eb : b = [] := List.length_eq_zero_iff.1 (by omega)
    subst ea eb
    simp [mrg_nil]
  | succ n ih =>
    intro a b h
    cases a with
    | nil =>
      cases b with
      | nil => simp [mrg_nil]
      | cons y b => rw [mrg_right]; have := ih [] b (by simp at h ⊢; omega); simp at this ⊢; omega
    | cons x a =>
      cases b with
      | nil => rw [mrg_left]; have := ih a [] (by simp at h ⊢; omega); simp at this ⊢; omega
      | cons y b =>
        rcases Nat.lt_trichotomy x.1 (kb y) with t | t | t
        · rw [mrg_lt _ t]; have := ih a (y :: b) (by simp at h ⊢; omega); simp at this ⊢; omega
        · rw [mrg_eq _ t]; have := ih a b (by simp at h ⊢; omega); simp at this ⊢; omega
        · rw [mrg_gt _ t]; have := ih (x :: a) b (by simp at h ⊢; omega); simp at this ⊢; omega
theorem below_drew {A B : World} (h : Below A.heap.size A B) (n : Nat) : Below A.heap.size A (B.drewN n) := ⟨h.os, h.tape, h.output, h.size, h.block⟩
set_option maxRecDepth 100000 in
set_option maxHeartbeats 4000000 in
theorem turned_walk {W : World} {pa pb : Option Addr} {la lb : List (Nat × Nat)} (HA : PairsAt W pa la) (HB : PairsAt W pb lb) {ca cb : Nat} (hca : la.length ≤ ca ∧ ca ≤ 9223372036854775807) (hcb : lb.length ≤ cb ∧ cb ≤ 9223372036854775807) (hla : la.length ≤ 1048576) (hlb : lb.length ≤ 1048576) :
    Calls Try.prog 8 #[.slice pa la.length ca, .slice pb lb.length cb] W fun e W' => e = .returned (.bool true) ∧ Below W.heap.size W W' := by
  have keepA : ∀ W1, Below W.heap.size W W1 → PairsAt W1 pa la := fun W1 h => HA.chgF (below_chgE h) (fun _ _ _ x => x)
  have keepB : ∀ W1, Below W.heap.size W W1 → PairsAt W1 pb lb := fun W1 h => HB.chgF (below_chgE h) (fun _ _ _ x => x)
  by_cases hr : riseB la = true ∧ riseB lb = true
  · have H1 := keepH (diff_yes HA HB hca hcb (by omega) (by omega) hr.1 hr.2)
    have H2 := keepH (fun W1 (h : Below W.heap.size W W1) => diff_yes (keepB W1 h) (keepA W1 h) hcb hca (by omega) (by omega) hr.2 hr.1)
    have HT := keepH (diff_turn la lb)
    have HS := keepH (diff_small HA.small HB.small)
    have HLen : Hid ((diffL la lb).length ≤ 100000000) := keepH (by
      refine Nat.le_trans (diffX_len _) ?_
      have := mrg_len (fun y : Nat × Nat => y.1) _ la lb (Nat.le_refl _)
      omega)
    rw [diff_turn la lb] at H2
    obtain ⟨l, hl⟩ : ∃ l, l = diffL la lb := ⟨_, rfl⟩
    rw [← hl] at H1 H2 HS HLen
    clear keepA keepB HA HB HT hl
    go_enter Try.func8, Try.ntmps8
    go_wp2_with (first | (go_at_call 20; refine H1.out.mono ?_; clear H1; rintro e W1 ⟨⟨v1, rfl, r1⟩, hB1⟩; obtain ⟨p1, c1, rfl, hat1, _⟩ := row_ch r1; have HR1 : Hid (ChAt W1 p1 l ∧ Below W.heap.size W W1) := keepH ⟨hat1, hB1⟩; clear r1 hat1 hB1) | (go_at_call 20; refine (H2.out _ HR1.out.2).mono ?_; clear H2; rintro e W2 ⟨⟨v2, rfl, r2⟩, hB2⟩; obtain ⟨p2, c2, rfl, hat2, _⟩ := row_ch r2; rw [List.length_map]; have HR2 : Hid (ChAt W2 p1 l ∧ ChAt W2 p2 (l.map Ch.turn) ∧ Below W.heap.size W W2) := keepH ⟨HR1.out.1.below hB2, hat2, below_trans HR1.out.2 hB2⟩; clear r2 hat2 hB2 HR1))
    go_loopw [9] (fun q wr => ∃ i : Nat, i ≤ l.length ∧ q = .int .i64 (i : Int) ∧ Hid (Below W2.heap.size W2 wr)) (fun q _ => l.length - (intOf q).toNat)
    case atStart => exact ⟨0, Nat.zero_le _, rfl, keepH (Below.refl _ _)⟩
    case round =>
      obtain ⟨i, hil, rfl, HX⟩ := hrel
      have hl9 : l.length ≤ 100000000 := HLen.out
      by_cases hlt : i < l.length
      · have q1 : (i : Int) < (l.length : Int) := by omega
        obtain ⟨⟨k, had, has, old, new⟩, hc⟩ : ∃ c, l[i]? = some c := ⟨l[i], List.getElem?_eq_getElem hlt⟩
        have hsm := HS.out _ (List.mem_of_getElem? hc)
        have hn := fun w => ch_neq (Ch.turn ⟨k, had, has, old, new⟩) ⟨hsm.1, hsm.2.2, hsm.2.1⟩ w
        have hc2 : (l.map Ch.turn)[i]? = some (Ch.turn ⟨k, had, has, old, new⟩) := by simp [hc]
        obtain ⟨bk, off, rfl, hbk, hcs⟩ := (HR2.out.1.below HX.out).resolve_left (by intro e; subst e; simp at hc)
        obtain ⟨bk2, off2, rfl, hbk2, hcs2⟩ := (HR2.out.2.1.below HX.out).resolve_left (by intro e; rw [e] at hc2; simp at hc2)
        obtain ⟨c0, c1, c2, c3, c4⟩ := hcs i _ hc
        obtain ⟨d0, d1, d2, d3, d4⟩ := hcs2 i _ hc2
        simp only [Ch.turn, Ch.val] at hn c0 c1 c2 c3 c4 d0 d1 d2 d3 d4
        have HI := keepH (below_drew HX.out)
        clear hc hc2 hcs hcs2 hsm HX
        go_wp2_with fail
        go_quiet (fail)
        go_wp2_with fail
        go_roundw
        case rel => exact ⟨i + 1, by omega, by first | rfl | go_num, keepH (HI.out _)⟩
        case measure => simp [intOf]; omega
      · have q1 : ¬ (i : Int) < (l.length : Int) := by omega
        have HLv := keepH (live_27 wr)
        go_wp2_with (first | (go_at_call 15; refine HLv.out.mono ?_; clear HLv; rintro e W9 ⟨rfl, hB9⟩; have HB9 := keepH hB9; clear hB9))
        go_ret
        exact ⟨rfl, below_trans (below_trans HR2.out.2.2 HX.out) HB9.out⟩
  · have H1 := keepH (diff_no HA HB ca cb (by omega) (by omega) hr)
    have H2 := keepH (fun W1 (h : Below W.heap.size W W1) => diff_no (keepB W1 h) (keepA W1 h) cb ca (by omega) (by omega) (fun z => hr ⟨z.2, z.1⟩))
    clear keepA keepB HA HB hr
    go_enter Try.func8, Try.ntmps8
    go_wp2_with (first | (go_at_call 20; refine H1.out.mono ?_; clear H1; rintro e W1 ⟨rfl, hB1⟩; have HB1 := keepH hB1; clear hB1) | (go_at_call 20; refine (H2.out _ HB1.out).mono ?_; clear H2; rintro e W2 ⟨rfl, hB2⟩; have HB2 := keepH (below_trans HB1.out hB2); clear hB2) | (go_at_call 15; refine (live_27 _).mono ?_; rintro e W9 ⟨rfl, hB9⟩; have HB9 := keepH hB9; clear hB9))
    go_ret
    exact ⟨rfl, below_trans HB2.out HB9.out⟩
end Go.Proofs.Ytbmfjcdafjknaaa
