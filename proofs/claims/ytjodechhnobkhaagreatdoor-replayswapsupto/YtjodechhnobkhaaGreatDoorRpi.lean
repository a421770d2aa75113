/- Print of the program, at accesses of any kind. -/
import Derived.Test.YtjodechhnobkhaaGreatDoorRph
namespace Go.Proofs.YtjodechhnobkhaaGreatDoor
open Go.RowKit Go.Shelf
set_option linter.unusedVariables false

theorem print_any (x : Ax) (o : x.Ok) (hk : 1 ≤ x.kind ∧ x.kind ≤ 5) (tb : Nat) (p : Option Addr) (c : Nat) (W : World) (hF : IsForms W tb) (T : Tb W) (hu : URd W p x.vals) (hl : x.vals.length ≤ 1048576) :
    Calls Tryz.prog 37 #[.pointer (some ⟨tb, 0, none⟩), .agg (accC x.th x.kind x.addr x.a x.b (.slice p x.vals.length c) x.got x.ok)] W fun e W' => e = .returned (.string (mkS (lineA x))) ∧ Below W.heap.size W W' := by
  have o0 := o.th0
  have o00 := o.th1
  have o1 := o.addr
  have o2 := o.a
  have o3 := o.b
  have o4 := o.got
  have o5 := o.vals
  obtain ⟨th, kind, ad, a, b, vals, got, ok⟩ := x
  simp only at o0 o00 o1 o2 o3 o4 o5 hk hu hl ⊢
  have hk' : kind = 1 ∨ kind = 2 ∨ kind = 3 ∨ kind = 4 ∨ kind = 5 := by omega
  rcases hk' with rfl | rfl | rfl | rfl | rfl
  · exact print_1 th ad a b got c tb vals p ok W hF T o0 o00 o1 o2 o3 o4 o5 hu hl
  · exact print_2 th ad a b got c tb vals p ok W hF T o0 o00 o1 o2 o3 o4 o5 hu hl
  · exact print_3 th ad a b got c tb vals p ok W hF T o0 o00 o1 o2 o3 o4 o5 hu hl
  · exact print_4 th ad a b got c tb vals p ok W hF T o0 o00 o1 o2 o3 o4 o5 hu hl
  · exact print_5 th ad a b got c tb vals p ok W hF T o0 o00 o1 o2 o3 o4 o5 hu hl

theorem atF_on {T e : TypeId} {B b : Nat} {p : Value} {bs : List Value} {w w' : World} (h : Lib.BuilderAtF T e B b p bs w) (hb : Below w.heap.size w w') : Lib.BuilderAtF T e B b p bs w' := by
  obtain ⟨hB, v, hbk, ⟨h1, h2⟩, hne⟩ := h
  refine ⟨hB, v, heap_below hbk hb, ⟨h1, ?_⟩, hne⟩
  rcases h2 with h2 | ⟨g, cap, cur, fz, hv, hbg, hg, r⟩
  · exact Or.inl h2
  · exact Or.inr ⟨g, cap, cur, fz, hv, hbg, heap_below hg hb, r⟩
theorem isF_on {T e : TypeId} {B b : Nat} {bs : List Value} {w w' : World} (h : Lib.IsBuilderF T e B b bs w) (hb : Below w.heap.size w w') : Lib.IsBuilderF T e B b bs w' := h.elim (fun x => Or.inl (atF_on x hb)) (fun x => Or.inr (atF_on x hb))

def printA (l : List Ax) : List UInt8 := (l.map (fun x => lineA x ++ [10])).flatten
theorem printA_snoc (l : List Ax) (s : Ax) : printA (l ++ [s]) = printA l ++ (lineA s ++ [10]) := by simp [printA]
theorem printA_cons (l : List Ax) (s : Ax) : printA (s :: l) = lineA s ++ 10 :: printA l := by simp [printA]
theorem printA_append (l r : List Ax) : printA (l ++ r) = printA l ++ printA r := by simp [printA]
theorem printA_take (l : List Ax) (i : Nat) : (printA (l.take i)).length ≤ (printA l).length := by
  have : printA l = printA (l.take i) ++ printA (l.drop i) := by rw [← printA_append, List.take_append_drop]
  rw [this, List.length_append]
  omega
theorem parts_len {x : Ax} (o : x.Ok) : ∀ f ∈ partsL x, f.length ≤ 21 := by
  intro f hf
  unfold partsL at hf
  rcases List.mem_cons.mp hf with rfl | hf
  · exact Lib.itoa_length_le _ o.th0 (by have := o.th1; omega)
  rcases List.mem_cons.mp hf with rfl | hf
  · unfold wordL; split <;> simp
  rcases List.mem_append.mp hf with hf | hf
  · obtain ⟨m, hm, rfl⟩ := List.mem_map.mp hf
    refine dec_len ?_
    unfold numsL at hm
    have o1 := o.addr
    have o2 := o.a
    have o3 := o.b
    have o4 := o.got
    repeat' split at hm
    all_goals first | (simp at hm; done) | (simp at hm; rcases hm with rfl | rfl | rfl <;> assumption) | (simp at hm; rcases hm with rfl | rfl <;> assumption) | (simp at hm; subst hm; assumption)
  rcases List.mem_append.mp hf with hf | hf
  · split at hf
    · simp at hf; subst hf; unfold okL; split <;> simp
    · simp at hf
  · obtain ⟨m, hm, rfl⟩ := List.mem_map.mp hf
    exact dec_len (o.vals m hm)
theorem parts_cnt (x : Ax) : (partsL x).length ≤ 6 + x.vals.length := by
  unfold partsL numsL
  simp only [List.length_cons, List.length_append, List.length_map]
  repeat' split
  all_goals first | (simp; omega) | simp | (exfalso; omega)
theorem line_len {x : Ax} (o : x.Ok) : (lineA x).length ≤ (6 + x.vals.length) * 22 := by
  refine Nat.le_trans (join_len (M := 21) _ (parts_len o)) ?_
  exact Nat.mul_le_mul_right _ (parts_cnt x)
def wtA : List Ax → Nat
  | [] => 0
  | x :: r => (6 + x.vals.length) + wtA r
theorem printA_len {l : List Ax} (h : ∀ s ∈ l, s.Ok) : (printA l).length ≤ wtA l * 23 := by
  induction l with
  | nil => simp [printA, wtA]
  | cons x t ih =>
    have a := line_len (h x (by simp))
    have b := ih (fun s hs => h s (by simp [hs]))
    rw [printA_cons, List.length_append, List.length_cons, wtA]
    omega

/-- what lies in memory while Print goes on -/
structure PI (W : World) (tb B : Nat) (l : List Ax) (i : Nat) (wr : World) : Prop where
  bel : Below W.heap.size W wr
  bld : Lib.IsBuilderF 86 5 B B (Lib.byteCells (printA (l.take i))) wr
  frm : IsForms wr tb
  lo : tb < B
  l0 : W.heap.size ≤ B
  hi : B < wr.heap.size
theorem PI.on {W : World} {tb B : Nat} {l : List Ax} {i : Nat} {wr w' : World} (h : PI W tb B l i wr) (hb : Below wr.heap.size wr w') : PI W tb B l i w' :=
  ⟨below_chain h.bel hb, isF_on h.bld hb, h.frm.on hb, h.lo, h.l0, Nat.lt_of_lt_of_le h.hi hb.size⟩
theorem heap_belowB {B : Nat} {w w' : World} {b : Nat} {o : Obj} (h : w.heap[b]? = some o) (hb : Below B w w') (hlt : b < B) : w'.heap[b]? = some o := by rw [hb.block b hlt]; exact h
theorem PI.wrote {W : World} {tb B : Nat} {l : List Ax} {i : Nat} {wr w1 w2 : World} {s : Ax} (h : PI W tb B l i wr) (hs : l[i]? = some s) (b1 : Below B wr w1) (h2 : Lib.IsBuilderF 86 5 B B ((Lib.byteCells (printA (l.take i)) ++ Lib.strCells (mkS (lineA s))) ++ [.int .u8 (10 : Nat)]) w2) (b2 : Below B w1 w2) : PI W tb B l (i + 1) w2 := by
  have b12 : Below B wr w2 := b1.trans b2
  refine ⟨h.bel.trans (b12.mono h.l0), ?_, heap_belowB h.frm b12 h.lo, h.lo, h.l0, Nat.lt_of_lt_of_le h.hi b12.size⟩
  rw [List.take_add_one, hs]
  simp only [Option.toList]
  rw [printA_snoc, Lib.byteCells_append, Lib.byteCells_append]
  rw [List.append_assoc] at h2
  exact h2

set_option maxRecDepth 100000 in
set_option maxHeartbeats 4000000 in
theorem print_yes (p : Option Addr) (c : Nat) (l : List Ax) (W : World) (h : ARd W p l) (hok : ∀ s ∈ l, s.Ok) (hl : l.length ≤ 1048576) (hvl : ∀ x ∈ l, x.vals.length ≤ 1048576) (hpl : (printA l).length ≤ 100000000000) (T : Tb W) (hr : ∀ x ∈ l, RightA x) :
    Calls Tryz.prog 20 #[.slice p l.length c] W fun e W' => e = .returned (.tuple #[.string (mkS (printA l)), .int .i64 0]) ∧ Below W.heap.size W W' := by
  have hfo := f_forms W
  have hFW := fun w1 (hb : Below W.heap.size W w1) (hF : IsForms w1 W.heap.size) => first_wrong p c W.heap.size l w1 (h.on hb) hok hl hF
  rw [wrongI_all hr] at hFW
  obtain ⟨n, hn⟩ : ∃ n, n = l.length := ⟨_, rfl⟩
  obtain ⟨tb, htb⟩ : ∃ tb, tb = W.heap.size := ⟨_, rfl⟩
  have HN := keepH hn
  rw [← htb] at hfo hFW
  rw [← hn] at hFW hl ⊢
  have HTB := keepH htb
  have HFW := keepH hFW
  have HR := keepH h
  have HOK := keepH hok
  have HT := keepH T
  have HVL := keepH hvl
  have HPL := keepH hpl
  have HRR := keepH hr
  clear hn htb hFW h hok T hr hvl hpl
  go_enter Tryz.func20, Tryz.ntmps20
  go_wp2_with fail
  refine hfo.mono ?_
  rintro e w1 ⟨rfl, hF1, hs1, B1⟩
  have hfw := HFW.out w1 B1 hF1
  rw [HTB.out] at B1
  rw [HTB.out] at hs1
  have HF1 := keepH hF1
  have HB1 := keepH B1
  have HS1 := keepH hs1
  clear hF1 B1 hs1 hfo
  go_wp2_with fail
  refine hfw.mono ?_
  rintro e w2 ⟨rfl, C2⟩
  have q2 : ¬ (n : Int) < (n : Int) := by omega
  have H2 : Hid (Below W.heap.size W w2 ∧ IsForms w2 tb ∧ tb < w2.heap.size) := keepH ⟨below_chain HB1.out C2, HF1.out.on C2, by have := C2.size; have := HS1.out; have := HTB.out; omega⟩
  clear C2 hfw
  obtain ⟨w3, hw3⟩ : ∃ w3, w3 = w2.alloc (.cells #[.pointer none, .slice none 0 0] 86) := ⟨_, rfl⟩
  obtain ⟨B, hB⟩ : ∃ B, B = w2.heap.size := ⟨_, rfl⟩
  have H0 : Hid (PI W tb B l 0 w3) := keepH (by
    rw [hw3, hB]
    refine ⟨below_chain H2.out.1 (below_alloc _ _), ?_, H2.out.2.1.on (below_alloc _ _), H2.out.2.2, H2.out.1.size, by simp⟩
    exact Lib.IsBuilderF.of (Lib.fresh_isBuilder 86 5 w2))
  go_upto_region 5 with fail
  rw [← hw3, ← hB]
  clear hw3 hB
  go_wp2_with fail
  go_loopw [7, 17] (fun s7 s17 wr => ∃ i : Nat, i ≤ n ∧ s17 = .int .i64 (i : Int) ∧ Hid (PI W tb B l i wr)) (fun _ s17 _ => n - (intOf s17).toNat)
  case atStart => exact ⟨0, by omega, rfl, H0⟩
  case round =>
    obtain ⟨i, hi, rfl, HI⟩ := hrel
    by_cases hlt : i < n
    · have q1 : (i : Int) < (n : Int) := by omega
      have q0 : (0 : Int) ≤ (i : Int) := by omega
      obtain ⟨x, hx⟩ : ∃ x, l[i]? = some x := ⟨l[i]'(by rw [← HN.out]; exact hlt), List.getElem?_eq_getElem _⟩
      have hm := List.mem_of_getElem? hx
      have hxo : x.Ok := HOK.out x hm
      have hxk := right_kind (HRR.out x hm)
      obtain ⟨bk, off, vp, vc, rfl, hbk, a0, a1, a2, a3, a4, a5, a6, a7, hu⟩ := (HR.out.on HI.out.bel).get i x hx
      obtain ⟨w4, hw4⟩ : ∃ w4, w4 = wr.alloc (.cells (accC x.th x.kind x.addr x.a x.b (.slice vp x.vals.length vc) x.got x.ok) 44) := ⟨_, rfl⟩
      have C4 : Below wr.heap.size wr w4 := by rw [hw4]; exact below_alloc _ _
      have X4 : w4.heap[wr.heap.size]? = some (.cells (accC x.th x.kind x.addr x.a x.b (.slice vp x.vals.length vc) x.got x.ok) 44 (0, 0)) := by rw [hw4]; exact heap_alloc_new _ _
      have HI4 := keepH (HI.out.on C4)
      have hpr := print_any x hxo hxk tb vp vc w4 HI4.out.frm (HT.out.on HI4.out.bel) (hu.on C4) (HVL.out x hm)
      have HX := keepH hx
      have HLL : Hid ((lineA x).length ≤ 100000000000 ∧ (printA (l.take i)).length ≤ 100000000000) := keepH (by
        have e1 := printA_take l i
        have e2 := printA_take l (i + 1)
        rw [List.take_add_one, hx] at e2
        simp only [Option.toList] at e2
        rw [printA_snoc, List.length_append, List.length_append] at e2
        have := HPL.out
        omega)
      obtain ⟨th, kind, ad, xa, xb, vals, got, ok⟩ := x
      simp only at a0 a1 a2 a3 a4 a5 a6 a7 hw4 X4 hpr
      obtain ⟨sl, hsl⟩ : ∃ s, s = mkS (lineA ⟨th, kind, ad, xa, xb, vals, got, ok⟩) := ⟨_, rfl⟩
      rw [← hsl] at hpr
      have HSL := keepH hsl
      obtain ⟨m, hm⟩ : ∃ m, m = vals.length := ⟨_, rfl⟩
      rw [← hm] at a5 hw4 X4 hpr
      have b0 : w4.cell? ⟨wr.heap.size, 0, none⟩ = some (.int .i64 th) := cell_of X4 0
      have b1 : w4.cell? ⟨wr.heap.size, 1, none⟩ = some (.int .u8 (kind : Int)) := cell_of X4 1
      have b2 : w4.cell? ⟨wr.heap.size, 2, none⟩ = some (.int .u64 (ad : Int)) := cell_of X4 2
      have b3 : w4.cell? ⟨wr.heap.size, 3, none⟩ = some (.int .u64 (xa : Int)) := cell_of X4 3
      have b4 : w4.cell? ⟨wr.heap.size, 4, none⟩ = some (.int .u64 (xb : Int)) := cell_of X4 4
      have b5 : w4.cell? ⟨wr.heap.size, 5, none⟩ = some (.slice vp m vc) := cell_of X4 5
      have b6 : w4.cell? ⟨wr.heap.size, 6, none⟩ = some (.int .u64 (got : Int)) := cell_of X4 6
      have b7 : w4.cell? ⟨wr.heap.size, 7, none⟩ = some (.bool ok) := cell_of X4 7
      clear hx hsl hm C4 X4 hu hxo hxk
      go_upto_region 8 with fail
      rw [← hw4]
      obtain ⟨nb, hnb⟩ : ∃ nb, nb = wr.heap.size := ⟨_, rfl⟩
      rw [← hnb] at b0 b1 b2 b3 b4 b5 b6 b7 ⊢
      clear hw4 hnb a0 a1 a2 a3 a4 a5 a6 a7
      go_wp2_with fail
      refine hpr.mono ?_
      rintro e w5 ⟨rfl, C5⟩
      have P5 := HI4.out.on C5
      have hws := ws_any B B _ sl w5 P5.bld (by
        rw [Lib.byteCells_length, HSL.out, mkS_size]
        have := HLL.out
        omega) (Nat.le_of_lt P5.hi)
      have HP5 := keepH P5
      clear P5 C5 b0 b1 b2 b3 b4 b5 b6 b7 hpr
      go_wp2_with fail
      refine hws.mono ?_
      rintro e w6 ⟨rfl, F6, C6, _⟩
      have hwb := wb_any B B _ 10 w6 F6 (by
        rw [List.length_append, Lib.byteCells_length, Lib.strCells_length, HSL.out, mkS_size]
        have := HLL.out
        omega) (Nat.le_of_lt (Nat.lt_of_lt_of_le HP5.out.hi C6.size))
      have HC6 := keepH C6
      clear F6 C6 hws
      go_wp2_with fail
      refine hwb.mono ?_
      rintro e w7 ⟨rfl, F7, C7⟩
      have HI7 : Hid (PI W tb B l (i + 1) w7) := keepH (HP5.out.wrote HX.out HC6.out (by rw [← HSL.out]; exact F7) C7)
      clear F7 C7 hwb
      go_wp2_with fail
      go_roundw
      case rel => exact ⟨i + 1, by omega, by first | rfl | go_num, HI7⟩
      case measure => simp [intOf]; omega
    · have q1 : ¬ (i : Int) < (n : Int) := by omega
      have hbs := bs_any B B (printA (l.take i)) wr HI.out.bld (Nat.le_of_lt HI.out.hi)
      rw [List.take_of_length_le (by rw [← HN.out]; omega)] at hbs
      obtain ⟨sP, hsP⟩ : ∃ sP, sP = mkS (printA l) := ⟨_, rfl⟩
      rw [show (⟨(printA l).toArray⟩ : ByteArray) = sP from hsP.symm] at hbs
      have HSP := keepH hsP
      clear hsP
      go_wp2_with fail
      refine hbs.mono ?_
      rintro e w6 ⟨rfl, C6, _⟩
      have B6 := HI.out.bel.trans (C6.mono HI.out.l0)
      go_wp2_with fail
      go_ret2
      exact ⟨by rw [HSP.out]; rfl, B6⟩
set_option maxRecDepth 100000 in
theorem print_no (p : Option Addr) (c : Nat) (l : List Ax) (W : World) (h : ARd W p l) (hok : ∀ s ∈ l, s.Ok) (hl : l.length ≤ 1048576) (hr : ¬ ∀ x ∈ l, RightA x) :
    Calls Tryz.prog 20 #[.slice p l.length c] W fun e W' => e = .returned (.tuple #[.string (mkS []), .int .i64 52]) ∧ Below W.heap.size W W' := by
  have hfo := f_forms W
  have hFW := fun w1 (hb : Below W.heap.size W w1) (hF : IsForms w1 W.heap.size) => first_wrong p c W.heap.size l w1 (h.on hb) hok hl hF
  have hw := wrongI_lt hr
  obtain ⟨n, hn⟩ : ∃ n, n = l.length := ⟨_, rfl⟩
  obtain ⟨wi, hwi⟩ : ∃ wi, wi = wrongI l := ⟨_, rfl⟩
  rw [← hn, ← hwi] at hFW
  rw [← hn, ← hwi] at hw
  rw [← hn]
  have q1 : (wi : Int) < (n : Int) := by omega
  have HFW := keepH hFW
  clear hn hwi hFW h hok hl hr hw
  go_enter Tryz.func20, Tryz.ntmps20
  go_wp2_with fail
  refine hfo.mono ?_
  rintro e w1 ⟨rfl, hF1, hs1, B1⟩
  have hfw := HFW.out w1 B1 hF1
  go_wp2_with fail
  refine hfw.mono ?_
  rintro e w2 ⟨rfl, C2⟩
  have B2 := below_chain B1 C2
  go_wp2_with fail
  go_ret2
  exact ⟨rfl, B2⟩
end Go.Proofs.YtjodechhnobkhaaGreatDoor
