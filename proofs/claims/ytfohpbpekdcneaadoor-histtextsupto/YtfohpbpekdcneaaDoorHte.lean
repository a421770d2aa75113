/- Print of the program, at spans of any kind. -/
import Derived.Test.YtfohpbpekdcneaaDoorHtd
namespace Go.Proofs.YtfohpbpekdcneaaDoor
open Go.RowKit Go.Shelf
set_option linter.unusedVariables false

theorem atF_on {T e : TypeId} {B b : Nat} {p : Value} {bs : List Value} {w w' : World} (h : Lib.BuilderAtF T e B b p bs w) (hb : Below w.heap.size w w') : Lib.BuilderAtF T e B b p bs w' := by
  obtain ⟨hB, v, hbk, ⟨h1, h2⟩, hne⟩ := h
  refine ⟨hB, v, heap_below hbk hb, ⟨h1, ?_⟩, hne⟩
  rcases h2 with h2 | ⟨g, cap, cur, fz, hv, hbg, hg, r⟩
  · exact Or.inl h2
  · exact Or.inr ⟨g, cap, cur, fz, hv, hbg, heap_below hg hb, r⟩
theorem isF_on {T e : TypeId} {B b : Nat} {bs : List Value} {w w' : World} (h : Lib.IsBuilderF T e B b bs w) (hb : Below w.heap.size w w') : Lib.IsBuilderF T e B b bs w' := h.elim (fun x => Or.inl (atF_on x hb)) (fun x => Or.inr (atF_on x hb))

def printL (l : List Sp) : List UInt8 := (l.map lineL).flatten
theorem printL_snoc (l : List Sp) (s : Sp) : printL (l ++ [s]) = printL l ++ lineL s := by simp [printL]
theorem printL_cons (l : List Sp) (s : Sp) : printL (s :: l) = lineL s ++ printL l := by simp [printL]
theorem printL_append (l r : List Sp) : printL (l ++ r) = printL l ++ printL r := by simp [printL]
theorem printL_len {l : List Sp} (h : ∀ s ∈ l, s.Ok) : (printL l).length ≤ l.length * 100 := by
  induction l with
  | nil => simp [printL]
  | cons x t ih =>
    have a := lineL_len (h x (by simp))
    have b := ih (fun s hs => h s (by simp [hs]))
    rw [printL_cons, List.length_append, List.length_cons]
    omega

/-- what lies in memory while Print goes on -/
structure PI (W : World) (B : Nat) (l : List Sp) (i : Nat) (wr : World) : Prop where
  bel : Below W.heap.size W wr
  bld : Lib.IsBuilderF 36 5 B B (Lib.byteCells (printL (l.take i))) wr
  lo : W.heap.size ≤ B
  hi : B < wr.heap.size
theorem PI.on {W : World} {B : Nat} {l : List Sp} {i : Nat} {wr w' : World} (h : PI W B l i wr) (hb : Below wr.heap.size wr w') : PI W B l i w' :=
  ⟨below_chain h.bel hb, isF_on h.bld hb, h.lo, Nat.lt_of_lt_of_le h.hi hb.size⟩
theorem PI.wrote {W : World} {B : Nat} {l : List Sp} {i : Nat} {wr w' : World} {s : Sp} (h : PI W B l i wr) (hs : l[i]? = some s) (h1 : Lib.IsBuilderF 36 5 B B (Lib.byteCells (printL (l.take i)) ++ Lib.strCells (mkS (lineL s))) w') (hb : Below B wr w') : PI W B l (i + 1) w' := by
  refine ⟨h.bel.trans (hb.mono h.lo), ?_, h.lo, Nat.lt_of_lt_of_le h.hi hb.size⟩
  rw [List.take_add_one, hs]
  simp only [Option.toList]
  rw [printL_snoc, Lib.byteCells_append]
  exact h1

set_option maxRecDepth 100000 in
set_option maxHeartbeats 4000000 in
theorem print_yes (p : Option Addr) (c : Nat) (l : List Sp) (W : World) (h : SReads W p l) (hok : ∀ s ∈ l, s.Ok) (hl : l.length ≤ 1048576) (T : Tb W) (hr : RightP l) :
    Calls Tryd.prog 5 #[.slice p l.length c] W fun e W' => e = .returned (.tuple #[.string (mkS (printL l)), .int .i64 0]) ∧ Below W.heap.size W W' := by
  have hR := h_right p c l W h hok (by omega)
  obtain ⟨n, hn⟩ : ∃ n, n = l.length := ⟨_, rfl⟩
  have HN := keepH hn
  rw [← hn] at hR hl ⊢
  clear hn
  go_enter Tryd.func5, Tryd.ntmps5
  go_wp2_with fail
  refine hR.mono ?_
  rintro e w1 ⟨x, rfl, hx, C1⟩
  obtain rfl : x = 0 := by
    rcases hx with ⟨_, q⟩ | ⟨q, _⟩
    · exact q
    · exact absurd hr q
  have B1 := chgB C1
  obtain ⟨w2, hw2⟩ : ∃ w2, w2 = w1.alloc (.cells #[.pointer none, .slice none 0 0] 36) := ⟨_, rfl⟩
  obtain ⟨B, hB⟩ : ∃ B, B = w1.heap.size := ⟨_, rfl⟩
  have H0 : Hid (PI W B l 0 w2) := keepH (by
    rw [hw2, hB]
    refine ⟨below_chain B1 (below_alloc _ _), ?_, B1.size, by simp⟩
    exact Lib.IsBuilderF.of (Lib.fresh_isBuilder 36 5 w1))
  have HR := keepH h
  have HOK := keepH hok
  have HT := keepH T
  clear hx C1 B1 h hok T hr hR
  go_upto_region 5 with fail
  rw [← hw2, ← hB]
  clear hw2 hB
  go_wp2_with fail
  go_loopw [15] (fun s15 wr => ∃ i : Nat, i ≤ n ∧ s15 = .int .i64 (i : Int) ∧ Hid (PI W B l i wr)) (fun s15 _ => n - (intOf s15).toNat)
  case atStart => exact ⟨0, by omega, rfl, H0⟩
  case round =>
    obtain ⟨i, hi, rfl, HI⟩ := hrel
    by_cases hlt : i < n
    · have q1 : (i : Int) < (n : Int) := by omega
      have q0 : (0 : Int) ≤ (i : Int) := by omega
      have qw : IntKind.i64.wrap ((i : Int) + 1) = ((i + 1 : Nat) : Int) := by rw [IntKind.wrap_i64]; omega
      obtain ⟨s, hs⟩ : ∃ s, l[i]? = some s := ⟨l[i]'(by rw [← HN.out]; exact hlt), List.getElem?_eq_getElem _⟩
      have hsok : s.Ok := HOK.out s (List.mem_of_getElem? hs)
      obtain ⟨bk, off, rfl, hbk, a0, a1, a2, a3⟩ := (HR.out.chg (belowC HI.out.bel) (fun _ _ x => x)).get i s hs
      obtain ⟨w3, hw3⟩ : ∃ w3, w3 = wr.alloc (.cells #[.int .i64 s.th, .int .i64 s.ix, .int .i64 s.fr, .int .i64 s.to] 38) := ⟨_, rfl⟩
      have C3 : Below wr.heap.size wr w3 := by rw [hw3]; exact below_alloc _ _
      have X3 : w3.heap[wr.heap.size]? = some (.cells #[.int .i64 s.th, .int .i64 s.ix, .int .i64 s.fr, .int .i64 s.to] 38 (0, 0)) := by rw [hw3]; exact heap_alloc_new _ _
      have b0 := cell_of X3 0
      have b1 := cell_of X3 1
      have b2 := cell_of X3 2
      have b3 := cell_of X3 3
      have HI3 := keepH (HI.out.on C3)
      have hline := line_any s hsok w3 (HT.out.on HI3.out.bel)
      have HS := keepH hs
      have HOS := keepH hsok
      clear hs C3 X3 hsok
      go_upto_region 8 with fail
      rw [← hw3]
      obtain ⟨nb, hnb⟩ : ∃ nb, nb = wr.heap.size := ⟨_, rfl⟩
      rw [← hnb] at b0 b1 b2 b3 ⊢
      clear hw3 hnb a0 a1 a2 a3
      go_wp2_with fail
      refine hline.mono ?_
      rintro e w4 ⟨rfl, C4⟩
      have P4 := HI3.out.on C4
      have hws := ws_any B B _ (mkS (lineL s)) w4 P4.bld (by
        rw [Lib.byteCells_length, mkS_size]
        have u := lineL_len HOS.out
        have v := printL_len (l := l.take i) (fun x hx => HOK.out x (List.mem_of_mem_take hx))
        rw [List.length_take] at v
        have := HN.out
        have : min i l.length ≤ 1048576 := by omega
        omega) (Nat.le_of_lt P4.hi)
      have HP4 := keepH P4
      clear P4 C4 b0 b1 b2 b3 hline
      go_wp2_with fail
      refine hws.mono ?_
      rintro e w5 ⟨rfl, F5, C5, _⟩
      have HI5 : Hid (PI W B l (i + 1) w5) := keepH (HP4.out.wrote HS.out F5 C5)
      clear F5 C5 hws
      go_wp2_with fail
      go_roundw
      case rel => exact ⟨i + 1, by omega, by first | rfl | go_num, HI5⟩
      case measure => simp [intOf]; omega
    · have q1 : ¬ (i : Int) < (n : Int) := by omega
      have hbs := bs_any B B (printL (l.take i)) wr HI.out.bld (Nat.le_of_lt HI.out.hi)
      rw [List.take_of_length_le (by rw [← HN.out]; omega)] at hbs
      obtain ⟨sP, hsP⟩ : ∃ sP, sP = mkS (printL l) := ⟨_, rfl⟩
      rw [show (⟨(printL l).toArray⟩ : ByteArray) = sP from hsP.symm] at hbs
      have HSP := keepH hsP
      clear hsP
      go_wp2_with fail
      refine hbs.mono ?_
      rintro e w6 ⟨rfl, C6, _⟩
      have B6 := HI.out.bel.trans (C6.mono HI.out.lo)
      go_wp2_with fail
      go_ret2
      exact ⟨by rw [HSP.out]; rfl, B6⟩
theorem print_no (p : Option Addr) (c : Nat) (l : List Sp) (W : World) (h : SReads W p l) (hok : ∀ s ∈ l, s.Ok) (hl : l.length ≤ 1048576) (hr : ¬ RightP l) :
    Calls Tryd.prog 5 #[.slice p l.length c] W fun e W' => e = .returned (.tuple #[.string (mkS []), .int .i64 50]) ∧ Below W.heap.size W W' := by
  have hR := h_right p c l W h hok (by omega)
  go_enter Tryd.func5, Tryd.ntmps5
  go_wp2_with fail
  refine hR.mono ?_
  rintro e w1 ⟨x, rfl, hx, C1⟩
  obtain rfl : x = 50 := by
    rcases hx with ⟨q, _⟩ | ⟨_, q⟩
    · exact absurd q hr
    · exact q
  have B1 := chgB C1
  clear hx
  go_wp2_with fail
  go_ret2
  exact ⟨rfl, B1⟩
end Go.Proofs.YtfohpbpekdcneaaDoor
