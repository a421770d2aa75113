/- The document's line of any right access, and its Print. -/
import Derived.Test.YtdgagpcofghbaaaGreatDoorRug
namespace Go.Proofs.YtdgagpcofghbaaaGreatDoor
open Go.RowKit Go.Shelf
set_option linter.unusedVariables false

theorem d_line (x : Ax) (hr : RightA x) (o : x.Ok) (p : Option Addr) (c : Nat) (W : World) (T : Tb W) (hu : URd W p x.vals) (hl : x.vals.length ≤ 1048576) :
    Calls Tryz.prog 19 #[.agg (bxA x (.slice p x.vals.length c))] W fun e W' => e = .returned (.string (mkS (lineA x))) ∧ Below W.heap.size W W' := by
  have o0 := o.th0
  have o00 := o.th1
  have o1 := o.addr
  have o2 := o.a
  have o3 := o.b
  have o4 := o.got
  have o5 := o.vals
  obtain ⟨th, kind, ad, a, b, vals, got, ok⟩ := x
  simp only at o0 o00 o1 o2 o3 o4 o5 hu hl ⊢
  rcases hr with ⟨e1, e2⟩ | ⟨e1, e2⟩ | ⟨e1, e2⟩ | ⟨e1, e2⟩ | ⟨e1, e2⟩ <;> simp only at e1 e2 <;> subst e1
  · obtain ⟨rfl, rfl, rfl, rfl⟩ := e2
    exact d_line_1 th ad 0 0 got 0 c p false W T o0 o00 o1 o2 o3 o4
  · obtain ⟨rfl, rfl, rfl, rfl⟩ := e2
    exact d_line_2 th ad a 0 0 0 c p false W T o0 o00 o1 o2 o3 o4
  · obtain ⟨rfl, rfl⟩ := e2
    exact d_line_3 th ad a b 0 0 c p ok W T o0 o00 o1 o2 o3 o4
  · obtain ⟨rfl, rfl, rfl⟩ := e2
    exact d_line_4 th ad a 0 got 0 c p false W T o0 o00 o1 o2 o3 o4
  · obtain ⟨rfl, rfl, rfl, rfl⟩ := e2
    exact d_line_5 th ad 0 0 0 vals.length c p false vals rfl o5 hl W T o0 o00 o1 o2 o3 o4 hu

theorem good_take {l : List Ax} (h : ∀ x ∈ l, RightA x) (i : Nat) : ∀ x ∈ l.take i, RightA x := fun x hx => h x (List.mem_of_mem_take hx)
def DPrQ (l : List Ax) (v : Value) : Prop := ((∀ x ∈ l, RightA x) → v = .tuple #[.string (mkS (printA l)), .int .i64 0]) ∧ ((¬ ∀ x ∈ l, RightA x) → v = .tuple #[.string (mkS []), .int .i64 52])
set_option maxRecDepth 100000 in
set_option maxHeartbeats 4000000 in
theorem dprint_any (p : Option Addr) (c : Nat) (l : List Ax) (W : World) (h : In W p l) (T : Tb W) :
    Calls Tryz.prog 7 #[.slice p l.length c] W fun e W' => ∃ v, e = .returned v ∧ DPrQ l v ∧ Below W.heap.size W W' := by
  have hpl := h.pl
  have hlen := h.len
  obtain ⟨n, hn⟩ : ∃ n, n = l.length := ⟨_, rfl⟩
  rw [← hn] at hlen ⊢
  have HN := keepH hn
  have HIN := keepH h
  have HT := keepH T
  have HPL := keepH hpl
  clear hn h T hpl
  go_enter Tryz.func7, Tryz.ntmps7
  go_wp2_with fail
  go_loopw [4, 5] (fun s4 s5 wr => ∃ i : Nat, i ≤ n ∧ s5 = .int .i64 (i : Int) ∧ s4 = .string (mkS (printA (l.take i))) ∧ Hid (Below W.heap.size W wr ∧ ∀ x ∈ l.take i, RightA x)) (fun _ s5 _ => n - (intOf s5).toNat)
  case atStart => exact ⟨0, by omega, rfl, rfl, keepH ⟨Below.refl _ _, fun x hx => by simp at hx⟩⟩
  case round =>
    obtain ⟨i, hi, rfl, rfl, HI⟩ := hrel
    by_cases hlt : i < n
    · have q1 : (i : Int) < (n : Int) := by omega
      have q0 : (0 : Int) ≤ (i : Int) := by omega
      obtain ⟨x, hx⟩ : ∃ x, l[i]? = some x := ⟨l[i]'(by rw [← HN.out]; exact hlt), List.getElem?_eq_getElem _⟩
      have hmem := List.mem_of_getElem? hx
      have hvl := HIN.out.vl x hmem
      obtain ⟨bk, off, vp, vc, rfl, hbk, a0, a1, a2, a3, a4, a5, a6, a7, hu⟩ := (HIN.out.rd.on HI.out.1).get i x hx
      have hrt := d_right x vp vc wr hu hvl
      have HLN : Hid (RightA x → ∀ w', Below wr.heap.size wr w' → Calls Tryz.prog 19 #[.agg (bxA x (.slice vp x.vals.length vc))] w' fun e W' => e = .returned (.string (mkS (lineA x))) ∧ Below w'.heap.size w' W') := keepH (fun hr w' hb => d_line x hr (HIN.out.ok x hmem) vp vc w' (HT.out.on (below_chain HI.out.1 hb)) (hu.on hb) hvl)
      have HX := keepH hx
      have HJ : Hid (∀ W, (Op.stringOp .add (mkS (lineA x)) ⟨#[10]⟩).run Tryz.prog W = .ok (.string (mkS (lineA x ++ [10]))) W) := keepH (by
        have e := printA_take l (i + 1)
        rw [List.take_add_one, hx] at e
        simp only [Option.toList] at e
        rw [printA_snoc, List.length_append, List.length_append] at e
        have := HPL.out
        exact add_str (lineA x) [10] (by simp at e ⊢; omega))
      have HJ2 : Hid (∀ W, (Op.stringOp .add (mkS (printA (l.take i))) (mkS (lineA x ++ [10]))).run Tryz.prog W = .ok (.string (mkS (printA (l.take (i + 1))))) W) := keepH (by
        have e := printA_take l (i + 1)
        rw [List.take_add_one, hx] at e ⊢
        simp only [Option.toList] at e ⊢
        rw [printA_snoc] at e ⊢
        have := HPL.out
        exact add_str _ _ (by rw [List.length_append] at e; omega))
      obtain ⟨xth, xk, xad, xa, xb, xvals, xgot, xok⟩ := x
      simp only at a0 a1 a2 a3 a4 a5 a6 a7 hrt HLN
      obtain ⟨vn, hvn⟩ : ∃ vn, vn = xvals.length := ⟨_, rfl⟩
      rw [← hvn] at a5 hrt HLN
      obtain ⟨sa, hsa⟩ : ∃ s, s = mkS (printA (l.take i)) := ⟨_, rfl⟩
      obtain ⟨sl, hsl⟩ : ∃ s, s = mkS (lineA ⟨xth, xk, xad, xa, xb, xvals, xgot, xok⟩) := ⟨_, rfl⟩
      obtain ⟨sl2, hsl2⟩ : ∃ s, s = mkS (lineA ⟨xth, xk, xad, xa, xb, xvals, xgot, xok⟩ ++ [10]) := ⟨_, rfl⟩
      obtain ⟨sb, hsb⟩ : ∃ s, s = mkS (printA (l.take (i + 1))) := ⟨_, rfl⟩
      rw [← hsl] at HLN HJ
      rw [← hsl2] at HJ HJ2
      rw [← hsa, ← hsb] at HJ2
      rw [← hsa]
      have HSB := keepH hsb
      clear hx hvn hsa hsl hsl2 hsb hmem hu hbk hvl
      go_wp2_with fail
      refine hrt.mono ?_
      rintro e w2 ⟨v, rfl, ⟨r, rfl, hr⟩, C2⟩
      cases r
      · have HNO : Hid (¬ RightA ⟨xth, xk, xad, xa, xb, xvals, xgot, xok⟩) := keepH (fun h => by have := hr.mpr h; cases this)
        have HB2 := keepH (below_chain HI.out.1 C2)
        clear hr C2 hrt
        go_wp2_with fail
        go_ret2
        exact ⟨_, rfl, ⟨fun hall => absurd (hall _ (List.mem_of_getElem? HX.out)) HNO.out, fun _ => rfl⟩, HB2.out⟩
      · have hR := hr.mp rfl
        have hln := HLN.out hR w2 C2
        have j1 := HJ.out
        have j2 := HJ2.out
        have HRT := keepH hR
        replace a0 := cell_below a0 C2
        replace a1 := cell_below a1 C2
        replace a2 := cell_below a2 C2
        replace a3 := cell_below a3 C2
        replace a4 := cell_below a4 C2
        replace a5 := cell_below a5 C2
        replace a6 := cell_below a6 C2
        replace a7 := cell_below a7 C2
        have HB2 := keepH (below_chain HI.out.1 C2)
        clear hr hR C2 hrt
        go_wp2_with fail
        refine hln.mono ?_
        rintro e w3 ⟨rfl, C3⟩
        have HB3 := keepH (below_chain HB2.out C3)
        clear C3 hln
        go_wp2_with fail
        go_roundw
        case rel => exact ⟨i + 1, by omega, by first | rfl | go_num, by rw [HSB.out], keepH ⟨HB3.out, fun y hy => by
          rw [List.take_add_one, HX.out] at hy
          rcases List.mem_append.mp hy with q | q
          · exact HI.out.2 y q
          · simp only [Option.toList, List.mem_singleton] at q
            subst q
            exact HRT.out⟩⟩
        case measure => simp [intOf]; omega
    · have q1 : ¬ (i : Int) < (n : Int) := by omega
      go_wp2_with fail
      go_ret2
      have et : l.take i = l := List.take_of_length_le (by rw [← HN.out]; omega)
      have hall := HI.out.2
      rw [et] at hall
      exact ⟨_, rfl, ⟨fun _ => by rw [et]; rfl, fun hn => absurd hall hn⟩, HI.out.1⟩
end Go.Proofs.YtdgagpcofghbaaaGreatDoor
