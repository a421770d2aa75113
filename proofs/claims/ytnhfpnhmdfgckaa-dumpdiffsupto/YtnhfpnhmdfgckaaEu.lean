/- The document's Sync and Load. -/
import Derived.Test.YtnhfpnhmdfgckaaEs
namespace Go.Proofs.Ytnhfpnhmdfgckaa
open Go.RowKit Go.Joins
set_option linter.unusedVariables false

theorem chg_drewNE {F : Nat → Prop} {a b : World} (h : Chg F a b) (n : Nat) : Chg F a (b.drewN n) := ⟨h.os, h.tape, h.output, h.size, h.block⟩
set_option maxRecDepth 100000 in
set_option maxHeartbeats 4000000 in
theorem e_sync_of {W : World} {pa pb : Option Addr} {na nb ca cb : Nat} {l : List Ch} (H : Calls Try.prog 21 #[.slice pa na ca, .slice pb nb cb] W fun e W' => (∃ v, e = .returned (.tuple #[v, .int .i64 0]) ∧ W'.ownsRow W.heap.size 89 5 v l.length (chRow l)) ∧ Below W.heap.size W W') (hl9 : l.length ≤ 100000000) :
    Calls Try.prog 23 #[.slice pa na ca, .slice pb nb cb] W fun e W' => (∃ v, e = .returned (.tuple #[v, .int .i64 0]) ∧ W'.ownsRow W.heap.size 66 11 v (l.map opOf).length (opRow (l.map opOf))) ∧ Below W.heap.size W W' := by
  obtain ⟨i0, hi, hz0, hz1, hz2⟩ := info_parts infoOp
  have H1 := keepH H
  clear H
  go_enter Try.func23, Try.ntmps23
  go_wp2_with (first | (go_at_call 21; refine H1.out.mono ?_; clear H1; rintro e W1 ⟨⟨v1, rfl, r1⟩, hB1⟩; obtain ⟨p1, c1, rfl, hat1, _⟩ := row_ch r1; have HR1 : Hid (ChAt W1 p1 l ∧ Below W.heap.size W W1) := keepH ⟨hat1, hB1⟩; clear r1 hat1 hB1))
  go_loopw [8, 9] (fun s q wr => ∃ i : Nat, i ≤ l.length ∧ q = .int .i64 (i : Int) ∧ Hid (wr.ownsRow W1.heap.size 66 11 s ((l.take i).map opOf).length (opRow ((l.take i).map opOf)) ∧ Below W1.heap.size W1 wr)) (fun _ q _ => l.length - (intOf q).toNat)
  case atStart => exact ⟨0, Nat.zero_le _, rfl, keepH ⟨World.ownsRow_nil _ _ _ _, Below.refl _ _⟩⟩
  case round =>
    obtain ⟨i, hil, rfl, HX⟩ := hrel
    by_cases hlt : i < l.length
    · have q1 : (i : Int) < (l.length : Int) := by omega
      obtain ⟨⟨k, had, has, old, new⟩, hc⟩ : ∃ c, l[i]? = some c := ⟨l[i], List.getElem?_eq_getElem hlt⟩
      obtain ⟨bk, off, rfl, hbk, hcs⟩ := (HR1.out.1.below HX.out.2).resolve_left (by intro e; subst e; simp at hc)
      obtain ⟨c0, c1, c2, c3, c4⟩ := hcs i _ hc
      simp only at c0 c1 c2 c3 c4
      have HE : Hid ((l.take (i + 1)).map opOf = (l.take i).map opOf ++ [opOf ⟨k, had, has, old, new⟩]) := keepH (by rw [List.take_add_one, hc]; simp)
      have HLN : Hid (((l.take i).map opOf).length < 100000000) := keepH (by simp; omega)
      clear hc hcs c1 c3
      cases has
      · go_wp2_with (first | (at_builtin; go_loud (refine wpList_append_own_at _ rfl _ _ 41 rfl W1.heap.size 66 i0 (.agg #[.int .u8 0, .int .u64 0, .int .u64 0, .int .u64 0, .int .u64 0, .bool false, .int .i64 0, .int .i64 0, .slice none 0 0, .int .u64 0, .int .u64 0]) 11 104 Try.underlying41 hi hz0 hz1 hz2 rfl (by decide) _ _ _ rfl (row_chg0 HX.out.1 (by repeat' (first | refine Chg.setCell ?_ (fun h => absurd h (Nat.lt_irrefl _)) _ | refine Chg.alloc ?_ _ | refine chg_drewNE ?_ _ | refine Chg.drew ?_ | exact Chg.refl _ _))) ⟨_, 0, none⟩ 1 1 (OpS.cells ⟨3, k, 0⟩) rfl rfl (cells_newE _ _ (by simp) _ _) (by intro u hu; simp [OpS.cells] at hu; rcases hu with rfl | rfl | rfl | rfl | rfl | rfl | rfl | rfl | rfl | rfl | rfl <;> rfl) (by unfold maxLen; have := HLN.out; omega) (by have := HLN.out; omega) (Nat.le_trans HX.out.2.size (Chg.size (F := fun _ => False) (by repeat' (first | refine Chg.setCell ?_ (fun h => absurd h (Nat.lt_irrefl _)) _ | refine Chg.alloc ?_ _ | refine chg_drewNE ?_ _ | refine Chg.drew ?_ | exact Chg.refl _ _)))) ?_); intro v' w3 r1 r2 r3 r4; have R1 := keepH r1; have R2 := keepH (turn_end HX.out.2 HX.out.1 (by repeat' (first | refine Chg.setCell ?_ (fun h => absurd h (Nat.lt_irrefl _)) _ | refine Chg.alloc ?_ _ | refine chg_drewNE ?_ _ | refine Chg.drew ?_ | exact Chg.refl _ _)) r2); clear r1 r2 r3 r4))
        go_roundw
        case rel =>
          refine ⟨i + 1, by omega, by first | rfl | go_num, keepH ⟨?_, R2.out⟩⟩
          rw [HE.out, opRow_add]
          have := R1.out
          simpa [opOf] using this
        case measure => simp [intOf]; omega
      · go_wp2_with fail
        go_region
        go_wp2_with (first | (at_builtin; go_loud (refine wpList_append_own_at _ rfl _ _ 41 rfl W1.heap.size 66 i0 (.agg #[.int .u8 0, .int .u64 0, .int .u64 0, .int .u64 0, .int .u64 0, .bool false, .int .i64 0, .int .i64 0, .slice none 0 0, .int .u64 0, .int .u64 0]) 11 104 Try.underlying41 hi hz0 hz1 hz2 rfl (by decide) _ _ _ rfl (row_chg0 HX.out.1 (by repeat' (first | refine Chg.setCell ?_ (fun h => absurd h (Nat.lt_irrefl _)) _ | refine Chg.alloc ?_ _ | refine chg_drewNE ?_ _ | refine Chg.drew ?_ | exact Chg.refl _ _))) ⟨_, 0, none⟩ 1 1 (OpS.cells ⟨2, k, new⟩) rfl rfl (cells_newE _ _ (by simp) _ _) (by intro u hu; simp [OpS.cells] at hu; rcases hu with rfl | rfl | rfl | rfl | rfl | rfl | rfl | rfl | rfl | rfl | rfl <;> rfl) (by unfold maxLen; have := HLN.out; omega) (by have := HLN.out; omega) (Nat.le_trans HX.out.2.size (Chg.size (F := fun _ => False) (by repeat' (first | refine Chg.setCell ?_ (fun h => absurd h (Nat.lt_irrefl _)) _ | refine Chg.alloc ?_ _ | refine chg_drewNE ?_ _ | refine Chg.drew ?_ | exact Chg.refl _ _)))) ?_); intro v' w3 r1 r2 r3 r4; have R1 := keepH r1; have R2 := keepH (turn_end HX.out.2 HX.out.1 (by repeat' (first | refine Chg.setCell ?_ (fun h => absurd h (Nat.lt_irrefl _)) _ | refine Chg.alloc ?_ _ | refine chg_drewNE ?_ _ | refine Chg.drew ?_ | exact Chg.refl _ _)) r2); clear r1 r2 r3 r4))
        go_roundw
        case rel =>
          refine ⟨i + 1, by omega, by first | rfl | go_num, keepH ⟨?_, R2.out⟩⟩
          rw [HE.out, opRow_add]
          have := R1.out
          simpa [opOf] using this
        case measure => simp [intOf]; omega
    · have q1 : ¬ (i : Int) < (l.length : Int) := by omega
      obtain rfl : i = l.length := by omega
      rw [List.take_length] at HX
      go_wp2_with fail
      go_ret2
      refine ⟨⟨_, rfl, ?_⟩, below_trans HR1.out.2 HX.out.2⟩
      have q := row_base HX.out.1 HR1.out.2.size
      rw [List.length_map] at q
      exact q
theorem e_sync_no {W : World} {pa pb : Option Addr} {na nb ca cb : Nat} (H : Calls Try.prog 21 #[.slice pa na ca, .slice pb nb cb] W fun e W' => e = .returned (.tuple #[.slice none 0 0, .int .i64 52]) ∧ Below W.heap.size W W') :
    Calls Try.prog 23 #[.slice pa na ca, .slice pb nb cb] W fun e W' => e = .returned (.tuple #[.slice none 0 0, .int .i64 52]) ∧ Below W.heap.size W W' := by
  have HC := keepH H
  clear H
  go_enter Try.func23, Try.ntmps23
  go_wp2_with (first | (go_at_call 21; refine HC.out.mono ?_; clear HC; rintro e W1 ⟨rfl, hB1⟩; have HB1 := keepH hB1; clear hB1))
  go_ret2
  exact ⟨rfl, HB1.out⟩
theorem e_load_no {W : World} {pb : Option Addr} {nb cb : Nat} (H : Calls Try.prog 23 #[.slice none 0 0, .slice pb nb cb] W fun e W' => e = .returned (.tuple #[.slice none 0 0, .int .i64 52]) ∧ Below W.heap.size W W') :
    Calls Try.prog 25 #[.slice pb nb cb] W fun e W' => e = .returned (.tuple #[.slice none 0 0, .int .i64 52]) ∧ Below W.heap.size W W' := by
  have HC := keepH H
  clear H
  go_enter Try.func25, Try.ntmps25
  go_wp2_with (first | (go_at_call 23; refine HC.out.mono ?_; clear HC; rintro e W1 ⟨rfl, hB1⟩; have HB1 := keepH hB1; clear hB1))
  go_ret2
  exact ⟨rfl, HB1.out⟩
theorem e_load_of {W : World} {pb : Option Addr} {nb cb : Nat} {l : List OpS} (H : Calls Try.prog 23 #[.slice none 0 0, .slice pb nb cb] W fun e W' => (∃ v, e = .returned (.tuple #[v, .int .i64 0]) ∧ W'.ownsRow W.heap.size 66 11 v l.length (opRow l)) ∧ Below W.heap.size W W') :
    Calls Try.prog 25 #[.slice pb nb cb] W fun e W' => (∃ v, e = .returned (.tuple #[v, .int .i64 0]) ∧ W'.ownsRow W.heap.size 66 11 v l.length (opRow l)) ∧ Below W.heap.size W W' := by
  have HC := keepH H
  clear H
  go_enter Try.func25, Try.ntmps25
  go_wp2_with (first | (go_at_call 23; refine HC.out.mono ?_; clear HC; rintro e W1 ⟨⟨v, rfl, r1⟩, hB1⟩; have HR := keepH r1; have HB1 := keepH hB1; clear hB1 r1))
  go_ret2
  exact ⟨⟨_, rfl, HR.out⟩, HB1.out⟩
end Go.Proofs.Ytnhfpnhmdfgckaa
