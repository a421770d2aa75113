/- Spans lent in memory of their own, a marked one behind them; they are still so. -/
import Derived.Test.YtaigpbbehlofbaaHSame
import Derived.Test.YtaigpbbehlofbaaHSpans
namespace Go.Proofs.Ytaigpbbehlofbaa
open Go.RowKit Go.Maps

def mark77 : Sp := ⟨77, 0, 0, 0⟩
def Lent (W : World) (g cap : Nat) (l : List Sp) : Prop := W.ownsRow 0 28 4 (.slice (some ⟨g, 0, none⟩) (l.length + 1) cap) (l.length + 1) (spRow (l ++ [mark77]))
theorem Lent.chg {W X : World} {g cap : Nat} {l : List Sp} {F : Nat → Prop} (h : Lent W g cap l) (hc : Chg F W X) (hF : ¬ F g) : Lent X g cap l :=
  row_kept h fun b hb => by
    simp [Value.ownBlock] at hb
    subst hb
    exact hc.block _ (row_lt h _ rfl) hF
theorem Lent.get {W : World} {g cap : Nat} {l : List Sp} (h : Lent W g cap l) : l.length + 1 ≤ cap ∧ g < W.heap.size := by
  rcases h.2 with ⟨h2, h3⟩ | ⟨g', cap', cur, h2, _, hg, hn, _⟩
  · omega
  · simp only [Value.slice.injEq, Option.some.injEq, Addr.mk.injEq] at h2
    obtain ⟨⟨rfl, _⟩, _, rfl⟩ := h2
    exact ⟨hn, lt_of hg⟩
theorem Lent.cells {W : World} {g cap : Nat} {l : List Sp} (h : Lent W g cap l) (i : Nat) (s : Sp) (hs : (l ++ [mark77])[i]? = some s) (j : Nat) (u : Value) (hu : s.cells[j]? = some u) : W.cell? ⟨g, 0 + i * 4 + j, none⟩ = some u := by
  have hi : i < l.length + 1 := by
    have := (List.getElem?_eq_some_iff.1 hs).1
    simpa using this
  have hj : j < 4 := by
    have := (List.getElem?_eq_some_iff.1 hu).1
    simp [Sp.cells] at this
    omega
  unfold Lent at h
  rw [Nat.zero_add, World.ownsRow.cellAt h (i * 4 + j) (by omega), spRow, rowOf_get Sp.cells 4 (fun _ => rfl) _ i j hj, hs]
  exact hu
theorem Lent.reads {W : World} {g cap : Nat} {l : List Sp} (h : Lent W g cap l) : SReads W (some ⟨g, 0, none⟩) l :=
  .inr ⟨g, 0, rfl, h.get.2, fun i s hs j u hu => h.cells i s (by rw [List.getElem?_append_left (List.getElem?_eq_some_iff.1 hs).1]; exact hs) j u hu⟩
theorem row_of {W : World} {bk off : Nat} {l : List Sp} (h : ∀ (i : Nat) s, l[i]? = some s → ∀ (j : Nat) u, s.cells[j]? = some u → W.cell? ⟨bk, off + i * 4 + j, none⟩ = some u) (j : Nat) (u : Value) (hj : (spRow l)[j]? = some u) : W.cell? ((⟨bk, off, none⟩ : Addr).add j) = some u := by
  have hd : j = j / 4 * 4 + j % 4 := by omega
  have hm : j % 4 < 4 := Nat.mod_lt _ (by decide)
  rw [hd, spRow, rowOf_get Sp.cells 4 (fun _ => rfl) l (j / 4) (j % 4) hm] at hj
  cases hs : l[j / 4]? with
  | none => rw [hs] at hj; simp at hj
  | some s =>
    rw [hs] at hj
    have := h (j / 4) s hs (j % 4) u (by simpa using hj)
    have e3 : (⟨bk, off, none⟩ : Addr).add j = ⟨bk, off + j / 4 * 4 + j % 4, none⟩ := by
      unfold Addr.add
      split
      · rename_i h0
        subst h0
        rfl
      · simp
        omega
    rw [e3]
    exact this
theorem spRow_one (l : List Sp) : ∀ u ∈ spRow l, u.oneCell' = true := by
  intro u hu
  unfold spRow at hu
  rw [List.mem_flatMap] at hu
  obtain ⟨s, _, hs⟩ := hu
  simp [Sp.cells] at hs
  rcases hs with rfl | rfl | rfl | rfl <;> rfl
set_option maxRecDepth 100000 in
set_option maxHeartbeats 2000000 in
theorem r_lent (p : Option Addr) (c : Nat) (l : List Sp) (W : World) (h : SReads W p l) (hl : l.length ≤ 4398046511000) :
    Calls Try.prog 4 #[.slice p l.length c] W fun e W' => ∃ g cap, e = .returned (.slice (some ⟨g, 0, none⟩) l.length cap) ∧ W.heap.size ≤ g ∧ Lent W' g cap l ∧ Chg (fun _ => False) W W' := by
  obtain ⟨i0, hi, hz0, hz1, hz2⟩ := info_parts infoSpan
  have fin : ∀ (v : Value) (w1 : World), w1.ownsRow 0 28 4 v l.length (spRow l) → Chg (fun _ => False) W w1 → (∀ b, v.ownBlock = some b → W.heap.size ≤ b) → ∀ (v' : Value) (w2 : World) (o : Obj), w2.ownsRow 0 28 4 v' (l.length + 1) (spRow l ++ [.int .i64 77, .int .i64 0, .int .i64 0, .int .i64 0]) → (w1.alloc o).grownBy w2 v.ownBlock → (v'.ownBlock = v.ownBlock ∨ v'.ownBlock = some (w1.alloc o).heap.size) →
      ∃ g cap, v' = .slice (some ⟨g, 0, none⟩) (l.length + 1) cap ∧ W.heap.size ≤ g ∧ Lent w2 g cap l ∧ Chg (fun _ => False) W w2 ∧ l.length + 1 ≤ cap := by
    intro v w1 h1 h2 h3 v' w2 o r1 r2 r4
    obtain ⟨g, cap, rfl⟩ := slice_pos r1 (by omega)
    have hg : W.heap.size ≤ g := by
      rcases r4 with e | e
      · exact h3 g (by rw [← e]; rfl)
      · simp [Value.ownBlock] at e
        have := h2.size
        omega
    have hL : Lent w2 g cap l := by
      unfold Lent spRow
      rw [List.flatMap_append]
      exact r1
    exact ⟨g, cap, rfl, hg, hL, (h2.alloc o).grown r2 (fun k e hk => by have := h3 k e; omega), hL.get.1⟩
  have FIN := keepH fin
  clear fin
  have tail : ∀ (v : Value) (w1 : World), w1.ownsRow 0 28 4 v l.length (spRow l) → Chg (fun _ => False) W w1 → (∀ b, v.ownBlock = some b → W.heap.size ≤ b) → True := fun _ _ _ _ _ => trivial
  clear tail
  by_cases h0 : l = []
  · subst h0
    have HR : Hid (W.ownsRow 0 28 4 (.slice none 0 0) 0 []) := World.ownsRow_nil _ _ _ _
    clear h
    have hsrc : ∀ w : World, (Builtin.append_ #[22, 22] 22 #[.slice none 0 0, .slice p 0 c]).run Try.prog w = .ok (.slice none 0 0) w := fun w => by
      cases p with
      | none => simp [Builtin.append_, run_underlying Try.underlying22, sizeOf, typeInfo, zeroValue, hi, hz0, Builtin.lenOf, Builtin.firstCells]
      | some a =>
        have hf := run_firstCells_some (P := Try.prog) w 4 0 a 0 c [] rfl (fun j u e => by simp at e)
        simp [Builtin.append_, run_underlying Try.underlying22, sizeOf, typeInfo, zeroValue, hi, hz0, hz1, Builtin.lenOf, hf]
    simp only [List.length_nil]
    go_enter Try.func4, Try.ntmps4
    go_wp2_with (first
      | (at_builtin; refine Lib.wpList_append_run _ rfl (.tmp 4) (.tmp 5) 22 22 rfl (.slice none 0 0) (.slice p 0 c) rfl rfl (.slice none 0 0) _ (hsrc _) ?_)
      | (at_builtin; refine wpList_append_own_at _ rfl (.tmp 7) (.tmp 9) 22 rfl 0 28 i0 (.agg #[.int .i64 0, .int .i64 0, .int .i64 0, .int .i64 0]) 4 32 Try.underlying22 hi hz0 hz1 hz2 rfl (by decide) (.slice none 0 0) 0 [] rfl (HR.out.alloc _) ⟨W.heap.size, 0, none⟩ 1 1 [.int .i64 77, .int .i64 0, .int .i64 0, .int .i64 0] rfl rfl (cells_new _ _ rfl _ _) (by intro u hu; simp at hu; rcases hu with rfl | rfl | rfl | rfl <;> rfl) (by unfold maxLen; omega) (by omega) (Nat.zero_le _) ?_; intro v' w2 r1 r2 r3 r4; obtain ⟨g, cap, rfl, hg, hL, hC, hcap⟩ := FIN.out (.slice none 0 0) W HR.out (Chg.refl _ _) (fun b e => by simp [Value.ownBlock] at e) v' w2 _ r1 r2 r4; have HG := keepH hg; have HL := keepH hL; have HC := keepH hC; simp only [List.length_nil] at hcap; clear r1 r2 r3 r4 hg hL hC)
      | go_in)
    go_ret
    exact ⟨g, cap, by simp, HG.out, HL.out, HC.out⟩
  · rcases h with rfl | ⟨bk, off, rfl, hbk, hcs⟩
    · exact absurd rfl h0
    · have HR : Hid (W.ownsRow 0 28 4 (.slice none 0 0) 0 []) := World.ownsRow_nil _ _ _ _
      have HCS := keepH (row_of hcs)
      have hlen : (spRow l).length = l.length * 4 := rowOf_length Sp.cells 4 (fun _ => rfl) l
      have HLN := keepH hlen
      have hpos : 0 < l.length := List.length_pos_iff.2 h0
      clear hcs hlen h0
      go_enter Try.func4, Try.ntmps4
      go_wp2_with (first
        | (at_builtin; refine wpList_append_own_at _ rfl (.tmp 4) (.tmp 5) 22 rfl 0 28 i0 (.agg #[.int .i64 0, .int .i64 0, .int .i64 0, .int .i64 0]) 4 32 Try.underlying22 hi hz0 hz1 hz2 rfl (by decide) (.slice none 0 0) 0 [] rfl HR.out ⟨bk, off, none⟩ l.length c (spRow l) rfl HLN.out HCS.out (spRow_one l) (by unfold maxLen; omega) (by omega) (Nat.zero_le _) ?_; intro v1 w1 q1 q2 q3 q4; rw [Nat.zero_add, List.nil_append] at q1; have HQ1 := keepH q1; have HQ2 : Hid (Chg (fun _ => False) W w1) := (Chg.refl (fun _ => False) W).grown q2 (fun k e _ => by simp [Value.ownBlock] at e); have HQ4 : Hid (∀ b, v1.ownBlock = some b → W.heap.size ≤ b) := (fun b e => by rcases q4 with e2 | e2 <;> rw [e2] at e <;> simp [Value.ownBlock] at e; omega); clear q1 q2 q3 q4)
        | (at_builtin; refine wpList_append_own_at _ rfl (.tmp 7) (.tmp 9) 22 rfl 0 28 i0 (.agg #[.int .i64 0, .int .i64 0, .int .i64 0, .int .i64 0]) 4 32 Try.underlying22 hi hz0 hz1 hz2 rfl (by decide) v1 l.length (spRow l) rfl (HQ1.out.alloc _) ⟨w1.heap.size, 0, none⟩ 1 1 [.int .i64 77, .int .i64 0, .int .i64 0, .int .i64 0] rfl rfl (cells_new _ _ rfl _ _) (by intro u hu; simp at hu; rcases hu with rfl | rfl | rfl | rfl <;> rfl) (by unfold maxLen; omega) (by omega) (Nat.zero_le _) ?_; intro v' w2 r1 r2 r3 r4; obtain ⟨g, cap, rfl, hg, hL, hC, hcap⟩ := FIN.out v1 w1 HQ1.out HQ2.out HQ4.out v' w2 _ r1 r2 r4; have HG := keepH hg; have HL := keepH hL; have HC := keepH hC; have hcap2 : (l.length : Int) ≤ (cap : Int) := (by omega); clear r1 r2 r3 r4 hg hL hC)
        | go_in)
      go_ret
      exact ⟨g, cap, by simp, HG.out, HL.out, HC.out⟩
set_option maxRecDepth 100000 in
set_option maxHeartbeats 2000000 in
theorem r_kept (p : Option Addr) (c g cap : Nat) (l : List Sp) (W : World) (h : SReads W p l) (hL : Lent W g cap l) (hl : l.length ≤ 4398046511000) :
    Calls Try.prog 13 #[.slice (some ⟨g, 0, none⟩) l.length cap, .slice p l.length c] W fun e W' => e = .returned (.bool true) ∧ Chg (fun _ => False) W W' := by
  have HP := keepH h
  have HL := keepH hL
  have hcap := hL.get.1
  have t1 : (l.length : Int) + 1 ≤ (cap : Int) := by omega
  have t2 : (l.length : Int) < (l.length : Int) + 1 := by omega
  clear h hL
  go_enter Try.func13, Try.ntmps13
  go_wp2_with fail
  refine (r_same _ _ _ _ l l _ HL.out.reads HP.out (by omega)).mono ?_
  rintro e W1 ⟨v, rfl, hv, C1⟩
  have hv2 : v = .bool true := by
    rcases hv with ⟨_, h⟩ | ⟨h, _⟩
    · exact h
    · exact absurd rfl h
  subst hv2
  have HC := keepH C1
  have c0 : W1.cell? ⟨g, l.length * 4, none⟩ = some (.int .i64 77) := by
    have := (HL.out.chg C1 (fun x => x)).cells l.length mark77 (by simp) 0 (.int .i64 77) rfl
    simpa using this
  clear C1 hv
  go_wp2_with fail
  go_ret
  exact ⟨by simp, HC.out⟩
end Go.Proofs.Ytaigpbbehlofbaa
