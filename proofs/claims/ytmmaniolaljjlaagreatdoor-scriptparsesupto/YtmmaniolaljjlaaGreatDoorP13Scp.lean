/- Is a script right? By both. (mkSej.py) -/
import Derived.Test.YtmmaniolaljjlaaGreatDoorP11Seb
import Derived.Test.YtmmaniolaljjlaaGreatDoorP12Sec
import Derived.Test.YtmmaniolaljjlaaGreatDoorP6Sci
import Derived.Deep.RegionHeld
import Derived.Laws.Tables
import Derived.Test.YtmmaniolaljjlaaGreatDoorP8Store
namespace Go.Proofs.YtmmaniolaljjlaaGreatDoor
open Go.RowKit Go.Shelf
set_option linter.unusedVariables false

def rtS (ce sl : Int) (stp : Nat) (mu : Int) (ts : List (List Opx)) (ps : List Int) : Nat :=
  if cfgE ce sl stp mu ≠ 0 then cfgE ce sl stp mu else if longT ts ps ∨ anyO tooO ts then 6 else if anyO (fun o => faultO o = 160) ts then 160 else if anyO (fun o => faultO o = 52) ts then 52 else 0
theorem rtS_cfg {ce sl : Int} {stp : Nat} {mu : Int} {ts : List (List Opx)} {ps : List Int} (h : cfgE ce sl stp mu ≠ 0) : rtS ce sl stp mu ts ps = cfgE ce sl stp mu := by rw [rtS, if_pos h]
theorem rtS_long {ce sl : Int} {stp : Nat} {mu : Int} {ts : List (List Opx)} {ps : List Int} (h : cfgE ce sl stp mu = 0) (h2 : longT ts ps ∨ anyO tooO ts) : rtS ce sl stp mu ts ps = 6 := by rw [rtS, if_neg (by omega), if_pos h2]
theorem rtS_op {ce sl : Int} {stp : Nat} {mu : Int} {ts : List (List Opx)} {ps : List Int} (h : cfgE ce sl stp mu = 0) (h2 : ¬ (longT ts ps ∨ anyO tooO ts)) (h3 : anyO (fun o => faultO o = 160) ts) : rtS ce sl stp mu ts ps = 160 := by rw [rtS, if_neg (by omega), if_neg h2, if_pos h3]
theorem rtS_form {ce sl : Int} {stp : Nat} {mu : Int} {ts : List (List Opx)} {ps : List Int} (h : cfgE ce sl stp mu = 0) (h2 : ¬ (longT ts ps ∨ anyO tooO ts)) (h3 : ¬ anyO (fun o => faultO o = 160) ts) (h4 : anyO (fun o => faultO o = 52) ts) : rtS ce sl stp mu ts ps = 52 := by rw [rtS, if_neg (by omega), if_neg h2, if_neg h3, if_pos h4]
theorem rtS_ok {ce sl : Int} {stp : Nat} {mu : Int} {ts : List (List Opx)} {ps : List Int} (h : cfgE ce sl stp mu = 0) (h2 : ¬ (longT ts ps ∨ anyO tooO ts)) (h3 : ¬ anyO (fun o => faultO o = 160) ts) (h4 : ¬ anyO (fun o => faultO o = 52) ts) : rtS ce sl stp mu ts ps = 0 := by rw [rtS, if_neg (by omega), if_neg h2, if_neg h3, if_neg h4]
set_option maxRecDepth 100000 in
set_option maxHeartbeats 4000000 in
theorem dRight_any (ce sl : Int) (stp : Nat) (mu : Int) (tp : Option Addr) (tc : Nat) (pp : Option Addr) (pc : Nat) (ts : List (List Opx)) (ps : List Int) (hS : SOk ts ps) (W : World) (hT : TRd W tp ts) :
    Calls Tryz.prog 19 #[.agg (scR ce sl stp mu (.slice tp ts.length tc) (.slice pp ps.length pc))] W fun e W' => e = .returned (.int .i64 (rtS ce sl stp mu ts ps : Int)) ∧ Below W.heap.size W W' := by
  obtain ⟨V, hV⟩ : ∃ V, V = rtS ce sl stp mu ts ps := ⟨_, rfl⟩
  rw [← hV]
  have HV := keepH hV
  obtain ⟨E, hE⟩ : ∃ E, E = cfgE ce sl stp mu := ⟨_, rfl⟩
  obtain ⟨L1, hL1⟩ : ∃ L, L = decide (longT ts ps ∨ anyO tooO ts) := ⟨_, rfl⟩
  obtain ⟨L2, hL2⟩ : ∃ L, L = decide (anyO (fun o => faultO o = 160) ts) := ⟨_, rfl⟩
  obtain ⟨L3, hL3⟩ : ∃ L, L = decide (anyO (fun o => faultO o = 52) ts) := ⟨_, rfl⟩
  obtain ⟨w1, hw1⟩ : ∃ w1, w1 = W.alloc (.cells (scR ce sl stp mu (.slice tp ts.length tc) (.slice pp ps.length pc)) 46) := ⟨_, rfl⟩
  obtain ⟨P, hP⟩ : ∃ P, P = W.heap.size := ⟨_, rfl⟩
  have B1 : Below W.heap.size W w1 := by rw [hw1]; exact below_alloc _ _
  have hNW := dNew_any ce sl stp mu w1
  have hLG := fun w (hb : Below w1.heap.size w1 w) => dLong_any ce sl stp mu tp tc pp pc ts ps hS w ((hT.on B1).on hb)
  have hS1 := fun w (hb : Below w1.heap.size w1 w) => dSome_any 160 ce sl stp mu tp tc pp pc ts ps hS w ((hT.on B1).on hb)
  have hS2 := fun w (hb : Below w1.heap.size w1 w) => dSome_any 52 ce sl stp mu tp tc pp pc ts ps hS w ((hT.on B1).on hb)
  rw [← hE] at hNW
  rw [← hL1] at hLG
  rw [← hL2] at hS1
  rw [← hL3] at hS2
  have HX1 : Hid (w1.heap[P]? = some (.cells (scR ce sl stp mu (.slice tp ts.length tc) (.slice pp ps.length pc)) 46 (0, 0))) := keepH (by rw [hw1, hP]; exact heap_alloc_new _ _)
  obtain ⟨n, hn⟩ : ∃ n, n = ts.length := ⟨_, rfl⟩
  obtain ⟨m, hm⟩ : ∃ m, m = ps.length := ⟨_, rfl⟩
  rw [← hn, ← hm] at hLG hS1 hS2 HX1 hw1 ⊢
  have HE := keepH hE
  have HL1 := keepH hL1
  have HL2 := keepH hL2
  have HL3 := keepH hL3
  have HNW := keepH hNW
  have HLG := keepH hLG
  have HS1 := keepH hS1
  have HS2 := keepH hS2
  have HW1 := keepH hw1
  have HP := keepH hP
  have HB1 := keepH B1
  have d0 : w1.cell? ⟨P, 0, none⟩ = _ := cell_of HX1.out 0
  have d1 : w1.cell? ⟨P, 1, none⟩ = _ := cell_of HX1.out 1
  have d2 : w1.cell? ⟨P, 2, none⟩ = _ := cell_of HX1.out 2
  have d3 : w1.cell? ⟨P, 3, none⟩ = _ := cell_of HX1.out 3
  have d4 : w1.cell? ⟨P, 4, none⟩ = _ := cell_of HX1.out 4
  have d5 : w1.cell? ⟨P, 5, none⟩ = _ := cell_of HX1.out 5
  clear hV hE hL1 hL2 hL3 hNW hLG hS1 hS2 hw1 hP B1 hn hm hS hT
  go_enter Tryz.func19, Tryz.ntmps19
  go_upto_region 1 with fail
  rw [← HW1.out, ← HP.out]
  go_wp2_with fail
  refine HNW.out.mono ?_
  rintro e w2 ⟨⟨p, rfl⟩, B2⟩
  have HB2 := keepH B2
  have HX2 := keepH (heap_below HX1.out B2)
  clear B2 d0 d1 d2 d3 d4 d5
  by_cases hE0 : E = 0
  · subst hE0
    have d0 : w2.cell? ⟨P, 0, none⟩ = _ := cell_of HX2.out 0
    have d1 : w2.cell? ⟨P, 1, none⟩ = _ := cell_of HX2.out 1
    have d2 : w2.cell? ⟨P, 2, none⟩ = _ := cell_of HX2.out 2
    have d3 : w2.cell? ⟨P, 3, none⟩ = _ := cell_of HX2.out 3
    have d4 : w2.cell? ⟨P, 4, none⟩ = _ := cell_of HX2.out 4
    have d5 : w2.cell? ⟨P, 5, none⟩ = _ := cell_of HX2.out 5
    cases L1 with
    | true =>
      have HR : Hid (V = 6) := keepH (by rw [HV.out]; exact rtS_long HE.out.symm (of_decide_eq_true HL1.out.symm))
      have HC := keepH (HLG.out w2 HB2.out)
      go_wp2_with fail
      refine HC.out.mono ?_
      rintro e w3 ⟨rfl, B3⟩
      have HB3 := keepH (below_chain (below_chain HB1.out HB2.out) B3)
      clear B3
      go_wp2_with fail
      go_ret
      exact ⟨by rw [HR.out]; rfl, HB3.out⟩
    | false =>
      have HC := keepH (HLG.out w2 HB2.out)
      go_wp2_with fail
      refine HC.out.mono ?_
      rintro e w3 ⟨rfl, B3⟩
      have HB3 := keepH (below_chain HB2.out B3)
      have HX3 := keepH (heap_below HX2.out B3)
      have HC3 := keepH (HS1.out w3 HB3.out)
      clear B3 d0 d1 d2 d3 d4 d5
      have d0 : w3.cell? ⟨P, 0, none⟩ = _ := cell_of HX3.out 0
      have d1 : w3.cell? ⟨P, 1, none⟩ = _ := cell_of HX3.out 1
      have d2 : w3.cell? ⟨P, 2, none⟩ = _ := cell_of HX3.out 2
      have d3 : w3.cell? ⟨P, 3, none⟩ = _ := cell_of HX3.out 3
      have d4 : w3.cell? ⟨P, 4, none⟩ = _ := cell_of HX3.out 4
      have d5 : w3.cell? ⟨P, 5, none⟩ = _ := cell_of HX3.out 5
      cases L2 with
      | true =>
        have HR : Hid (V = 160) := keepH (by rw [HV.out]; exact rtS_op HE.out.symm (of_decide_eq_false HL1.out.symm) (of_decide_eq_true HL2.out.symm))
        go_wp2_with fail
        refine HC3.out.mono ?_
        rintro e w4 ⟨rfl, B4⟩
        have HB4 := keepH (below_chain (below_chain HB1.out HB3.out) B4)
        clear B4
        go_wp2_with fail
        go_ret
        exact ⟨by rw [HR.out]; rfl, HB4.out⟩
      | false =>
        go_wp2_with fail
        refine HC3.out.mono ?_
        rintro e w4 ⟨rfl, B4⟩
        have HB4 := keepH (below_chain HB3.out B4)
        have HX4 := keepH (heap_below HX3.out B4)
        have HC4 := keepH (HS2.out w4 HB4.out)
        clear B4 d0 d1 d2 d3 d4 d5
        have d0 : w4.cell? ⟨P, 0, none⟩ = _ := cell_of HX4.out 0
        have d1 : w4.cell? ⟨P, 1, none⟩ = _ := cell_of HX4.out 1
        have d2 : w4.cell? ⟨P, 2, none⟩ = _ := cell_of HX4.out 2
        have d3 : w4.cell? ⟨P, 3, none⟩ = _ := cell_of HX4.out 3
        have d4 : w4.cell? ⟨P, 4, none⟩ = _ := cell_of HX4.out 4
        have d5 : w4.cell? ⟨P, 5, none⟩ = _ := cell_of HX4.out 5
        cases L3 with
        | true =>
          have HR : Hid (V = 52) := keepH (by rw [HV.out]; exact rtS_form HE.out.symm (of_decide_eq_false HL1.out.symm) (of_decide_eq_false HL2.out.symm) (of_decide_eq_true HL3.out.symm))
          go_wp2_with fail
          refine HC4.out.mono ?_
          rintro e w5 ⟨rfl, B5⟩
          have HB5 := keepH (below_chain (below_chain HB1.out HB4.out) B5)
          clear B5
          go_wp2_with fail
          go_ret
          exact ⟨by rw [HR.out]; rfl, HB5.out⟩
        | false =>
          have HR : Hid (V = 0) := keepH (by rw [HV.out]; exact rtS_ok HE.out.symm (of_decide_eq_false HL1.out.symm) (of_decide_eq_false HL2.out.symm) (of_decide_eq_false HL3.out.symm))
          go_wp2_with fail
          refine HC4.out.mono ?_
          rintro e w5 ⟨rfl, B5⟩
          have HB5 := keepH (below_chain (below_chain HB1.out HB4.out) B5)
          clear B5
          go_wp2_with fail
          go_ret
          exact ⟨by rw [HR.out]; rfl, HB5.out⟩
  · have q0 : ((E : Int) != 0) = true := by simp; omega
    have q1 : ¬ (E : Int) = 0 := by omega
    have HR : Hid (V = E) := keepH (by rw [HV.out, rtS_cfg (by rw [← HE.out]; exact hE0), HE.out])
    have HB3 := keepH (below_chain HB1.out HB2.out)
    clear hE0
    go_wp2_with fail
    go_ret
    exact ⟨by rw [HR.out]; rfl, HB3.out⟩
end Go.Proofs.YtmmaniolaljjlaaGreatDoor
/- A line of a script's text, written into a builder. -/
namespace Go.Proofs.YtmmaniolaljjlaaGreatDoor
open Go.RowKit Go.Shelf
set_option linter.unusedVariables false

theorem atF_onS {T e : TypeId} {B b : Nat} {p : Value} {bs : List Value} {w w' : World} (h : Lib.BuilderAtF T e B b p bs w) (hb : Below w.heap.size w w') : Lib.BuilderAtF T e B b p bs w' := by
  obtain ⟨hB, v, hbk, ⟨h1, h2⟩, hne⟩ := h
  refine ⟨hB, v, heap_below hbk hb, ⟨h1, ?_⟩, hne⟩
  rcases h2 with h2 | ⟨g, cap, cur, fz, hv, hbg, hg, r⟩
  · exact Or.inl h2
  · exact Or.inr ⟨g, cap, cur, fz, hv, hbg, heap_below hg hb, r⟩
theorem isF_onS {T e : TypeId} {B b : Nat} {bs : List Value} {w w' : World} (h : Lib.IsBuilderF T e B b bs w) (hb : Below w.heap.size w w') : Lib.IsBuilderF T e B b bs w' := h.elim (fun x => Or.inl (atF_onS x hb)) (fun x => Or.inr (atF_onS x hb))
end Go.Proofs.YtmmaniolaljjlaaGreatDoor
/- Lines of picks, by both; the line of a config, by the document. -/
namespace Go.Proofs.YtmmaniolaljjlaaGreatDoor
open Go.RowKit Go.Shelf
set_option linter.unusedVariables false

def pkW : List UInt8 := [112, 105, 99, 107, 115]
def pkL (l : List Int) : List (List UInt8) := pkW :: l.map Lib.itoa
def pkT (l : List Int) : List UInt8 := Lib.join (pkL l) [32]
theorem join_snocS : ∀ (a : List UInt8) (fs : List (List UInt8)) (r : List UInt8), Lib.join (a :: fs ++ [r]) [32] = Lib.join (a :: fs) [32] ++ (32 :: r)
  | a, [], r => by simp [Lib.join]
  | a, b :: fs, r => by
    have ih := join_snocS b fs r
    simp only [List.cons_append] at ih ⊢
    rw [join_cc, join_cc, ih]
    simp
theorem pkT_take (l : List Int) (i : Nat) (x : Int) (h : l[i]? = some x) : pkT (l.take (i + 1)) = pkT (l.take i) ++ (32 :: Lib.itoa x) := by
  unfold pkT pkL
  rw [List.take_add_one, h]
  simp only [Option.toList, List.map_append, List.map_cons, List.map_nil]
  exact join_snocS _ _ _
theorem pkT_len (l : List Int) (h : ∀ x ∈ l, isI x) : (pkT l).length ≤ 101 * (l.length + 1) := by
  have := join_len (pkL l) (fun f hf => by
    rcases List.mem_cons.1 hf with rfl | hf
    · decide
    · obtain ⟨x, hx, rfl⟩ := List.mem_map.1 hf
      have := itoa_len (h x hx)
      omega)
  unfold pkT
  simpa [pkL] using this
set_option maxRecDepth 100000 in
set_option maxHeartbeats 4000000 in
theorem dPicks_any (p : Option Addr) (c : Nat) (l : List Int) (hl : l.length ≤ 10000000) (hI : ∀ x ∈ l, isI x) (W : World) (T : Tb W) (hR : IRd W p l) :
    Calls Tryz.prog 45 #[.slice p l.length c] W fun e W' => e = .returned (.string (mkS (pkT l))) ∧ Below W.heap.size W W' := by
  have HIT := keepH (fun x (hx : isI x) w (hb : Below W.heap.size W w) => itoa_any x hx.1 hx.2 w (T.on hb))
  have HII := keepH hI
  have HR := keepH hR
  obtain ⟨n, hn⟩ : ∃ n, n = l.length := ⟨_, rfl⟩
  have HN := keepH hn
  rw [← hn] at hl ⊢
  clear hI hR T hn
  go_enter Tryz.func45, Tryz.ntmps45
  go_wp2_with fail
  go_loopw [3, 4] (fun s3 s wr => ∃ i : Nat, i ≤ n ∧ s = .int .i64 (i : Int) ∧ ∃ t, s3 = .string t ∧ Hid (t = mkS (pkT (l.take i)) ∧ Below W.heap.size W wr)) (fun _ s _ => n - (intOf s).toNat)
  case atStart => exact ⟨0, by omega, rfl, _, rfl, keepH ⟨by simp [pkT, pkL, Lib.join]; rfl, Below.refl _ _⟩⟩
  case round =>
    obtain ⟨i, him, rfl, t, rfl, HK⟩ := hrel
    by_cases hlt : i < n
    · have t1 : (i : Int) < (n : Int) := by omega
      have t0 : (0 : Int) ≤ (i : Int) := by omega
      obtain ⟨x, hx⟩ : ∃ x, l[i]? = some x := ⟨l[i]'(by have := HN.out; omega), List.getElem?_eq_getElem _⟩
      obtain ⟨bk, off, rfl, hbk, c0⟩ := (HR.out.on HK.out.2).get i x hx
      have hxi := HII.out x (List.mem_of_getElem? hx)
      have HQ := keepH (HIT.out x hxi wr HK.out.2)
      have l1 := itoa_len hxi
      have l2 := pkT_len (l.take i) (fun y hy => HII.out y (List.mem_of_mem_take hy))
      rw [List.length_take] at l2
      have k1 := add_str [32] (Lib.itoa x) (by simp; omega)
      have k2 := add_str (pkT (l.take i)) ([32] ++ Lib.itoa x) (by simp; omega)
      have hnx : mkS (pkT (l.take (i + 1))) = mkS (pkT (l.take i) ++ ([32] ++ Lib.itoa x)) := by rw [pkT_take l i x hx]; rfl
      obtain ⟨sx, hsx⟩ : ∃ s, s = mkS (Lib.itoa x) := ⟨_, rfl⟩
      obtain ⟨sy, hsy⟩ : ∃ s, s = mkS ([32] ++ Lib.itoa x) := ⟨_, rfl⟩
      obtain ⟨sz, hsz⟩ : ∃ s, s = mkS (pkT (l.take i) ++ ([32] ++ Lib.itoa x)) := ⟨_, rfl⟩
      rw [show mkS [32] = ⟨#[32]⟩ from rfl, ← hsx, ← hsy] at k1
      rw [← HK.out.1, ← hsy, ← hsz] at k2
      rw [← hsx] at HQ
      have HNX : Hid (sz = mkS (pkT (l.take (i + 1)))) := keepH (by rw [hsz, hnx])
      clear hx hxi l1 l2 hnx hsx hsy hsz hbk
      go_wp2_with (first | (go_at_call 29; refine HQ.out.mono ?_; rintro e w2 ⟨rfl, B2⟩; have HB2 := keepH (below_chain HK.out.2 B2); clear B2) | go_in)
      go_roundw
      case rel => exact ⟨i + 1, by omega, by first | rfl | go_num, _, rfl, keepH ⟨HNX.out, HB2.out⟩⟩
      case measure => simp [intOf]; omega
    · obtain rfl : i = n := by omega
      have t1 : ¬ (i : Int) < (i : Int) := by omega
      have HE : Hid (t = mkS (pkT l)) := keepH (by
        have := HK.out.1
        rw [HN.out, List.take_length] at this
        exact this)
      have HB2 := keepH HK.out.2
      go_wp2_with fail
      go_ret
      exact ⟨by rw [← HE.out]; rfl, HB2.out⟩
end Go.Proofs.YtmmaniolaljjlaaGreatDoor
/- The line of a config, by the document. (mkSen.py) -/
namespace Go.Proofs.YtmmaniolaljjlaaGreatDoor
open Go.RowKit Go.Shelf
set_option linter.unusedVariables false

def cfW : List UInt8 := [99, 111, 110, 102, 105, 103]
def cfL (ce sl : Int) (stp : Nat) (mu : Int) : List (List UInt8) := [cfW, Lib.itoa ce, Lib.itoa sl, Lib.decDigits stp, Lib.itoa mu]
def cfT (ce sl : Int) (stp : Nat) (mu : Int) : List UInt8 := Lib.join (cfL ce sl stp mu) [32]
set_option maxRecDepth 100000 in
set_option maxHeartbeats 4000000 in
theorem dConfig_any (ce sl : Int) (stp : Nat) (mu : Int) (h1 : isI ce) (h2 : isI sl) (h3 : isU stp) (h4 : isI mu) (W : World) (T : Tb W) : Calls Tryz.prog 44 #[.agg #[.int .i64 ce, .int .i64 sl, .int .u64 (stp : Int), .int .i64 mu]] W fun e W' => e = .returned (.string (mkS (cfT ce sl stp mu))) ∧ Below W.heap.size W W' := by
  obtain ⟨w1, hw1⟩ : ∃ w1, w1 = W.alloc (.cells #[.int .i64 ce, .int .i64 sl, .int .u64 (stp : Int), .int .i64 mu] 42) := ⟨_, rfl⟩
  obtain ⟨P, hP⟩ : ∃ P, P = W.heap.size := ⟨_, rfl⟩
  have HB1 : Hid (Below W.heap.size W w1) := keepH (by rw [hw1]; exact below_alloc _ _)
  have HX1 : Hid (w1.drew.heap[P]? = some (.cells #[.int .i64 ce, .int .i64 sl, .int .u64 (stp : Int), .int .i64 mu] 42 (0, 0))) := keepH (by rw [hw1, hP]; exact heap_alloc_new _ _)
  have HW1 := keepH hw1
  have HP := keepH hP
  have l1 := itoa_len h1
  have l2 := itoa_len h2
  have l3 := dec_len h3
  have l4 := itoa_len h4
  have ha := fun w (hb : Below W.heap.size W w) => itoa_any ce h1.1 h1.2 w (T.on hb)
  have hbb := fun w (hb : Below W.heap.size W w) => itoa_any sl h2.1 h2.2 w (T.on hb)
  have hc := fun w (hb : Below W.heap.size W w) => dNum_any stp h3 w (T.on hb)
  have hd := fun w (hb : Below W.heap.size W w) => itoa_any mu h4.1 h4.2 w (T.on hb)
  have k1 := add_str [99, 111, 110, 102, 105, 103, 32] (Lib.itoa ce) (by simp; omega)
  have k2 := add_str ([99, 111, 110, 102, 105, 103, 32] ++ Lib.itoa ce) [32] (by simp; omega)
  have k3 := add_str (([99, 111, 110, 102, 105, 103, 32] ++ Lib.itoa ce) ++ [32]) (Lib.itoa sl) (by simp; omega)
  have k4 := add_str ((([99, 111, 110, 102, 105, 103, 32] ++ Lib.itoa ce) ++ [32]) ++ Lib.itoa sl) [32] (by simp; omega)
  have k5 := add_str (((([99, 111, 110, 102, 105, 103, 32] ++ Lib.itoa ce) ++ [32]) ++ Lib.itoa sl) ++ [32]) (Lib.decDigits stp) (by simp; omega)
  have k6 := add_str ((((([99, 111, 110, 102, 105, 103, 32] ++ Lib.itoa ce) ++ [32]) ++ Lib.itoa sl) ++ [32]) ++ Lib.decDigits stp) [32] (by simp; omega)
  have k7 := add_str (((((([99, 111, 110, 102, 105, 103, 32] ++ Lib.itoa ce) ++ [32]) ++ Lib.itoa sl) ++ [32]) ++ Lib.decDigits stp) ++ [32]) (Lib.itoa mu) (by simp; omega)
  obtain ⟨g1, hg1⟩ : ∃ s, s = mkS ([99, 111, 110, 102, 105, 103, 32] ++ Lib.itoa ce) := ⟨_, rfl⟩
  obtain ⟨g2, hg2⟩ : ∃ s, s = mkS (([99, 111, 110, 102, 105, 103, 32] ++ Lib.itoa ce) ++ [32]) := ⟨_, rfl⟩
  obtain ⟨g3, hg3⟩ : ∃ s, s = mkS ((([99, 111, 110, 102, 105, 103, 32] ++ Lib.itoa ce) ++ [32]) ++ Lib.itoa sl) := ⟨_, rfl⟩
  obtain ⟨g4, hg4⟩ : ∃ s, s = mkS (((([99, 111, 110, 102, 105, 103, 32] ++ Lib.itoa ce) ++ [32]) ++ Lib.itoa sl) ++ [32]) := ⟨_, rfl⟩
  obtain ⟨g5, hg5⟩ : ∃ s, s = mkS ((((([99, 111, 110, 102, 105, 103, 32] ++ Lib.itoa ce) ++ [32]) ++ Lib.itoa sl) ++ [32]) ++ Lib.decDigits stp) := ⟨_, rfl⟩
  obtain ⟨g6, hg6⟩ : ∃ s, s = mkS (((((([99, 111, 110, 102, 105, 103, 32] ++ Lib.itoa ce) ++ [32]) ++ Lib.itoa sl) ++ [32]) ++ Lib.decDigits stp) ++ [32]) := ⟨_, rfl⟩
  obtain ⟨g7, hg7⟩ : ∃ s, s = mkS ((((((([99, 111, 110, 102, 105, 103, 32] ++ Lib.itoa ce) ++ [32]) ++ Lib.itoa sl) ++ [32]) ++ Lib.decDigits stp) ++ [32]) ++ Lib.itoa mu) := ⟨_, rfl⟩
  obtain ⟨sa, hsa⟩ : ∃ s, s = mkS (Lib.itoa ce) := ⟨_, rfl⟩
  obtain ⟨sb, hsb⟩ : ∃ s, s = mkS (Lib.itoa sl) := ⟨_, rfl⟩
  obtain ⟨sc, hsc⟩ : ∃ s, s = mkS (Lib.decDigits stp) := ⟨_, rfl⟩
  obtain ⟨sd, hsd⟩ : ∃ s, s = mkS (Lib.itoa mu) := ⟨_, rfl⟩
  have hfin : g7 = mkS (cfT ce sl stp mu) := by rw [hg7]; unfold cfT cfL; rw [join_cc, join_cc, join_cc, join_cc]; simp [Lib.join, cfW]
  rw [show mkS [99, 111, 110, 102, 105, 103, 32] = ⟨#[99, 111, 110, 102, 105, 103, 32]⟩ from rfl, ← hsa, ← hg1] at k1
  rw [← hg1, show mkS [32] = ⟨#[32]⟩ from rfl, ← hg2] at k2
  rw [← hg2, ← hsb, ← hg3] at k3
  rw [← hg3, show mkS [32] = ⟨#[32]⟩ from rfl, ← hg4] at k4
  rw [← hg4, ← hsc, ← hg5] at k5
  rw [← hg5, show mkS [32] = ⟨#[32]⟩ from rfl, ← hg6] at k6
  rw [← hg6, ← hsd, ← hg7] at k7
  rw [← hsa] at ha
  rw [← hsb] at hbb
  rw [← hsc] at hc
  rw [← hsd] at hd
  have HA := keepH ha
  have HBb := keepH hbb
  have HC := keepH hc
  have HD := keepH hd
  have HFIN := keepH hfin
  rw [← hfin]
  clear hw1 hP ha hbb hc hd hfin l1 l2 l3 l4 h1 h2 h3 h4 T hsa hsb hsc hsd hg1 hg2 hg3 hg4 hg5 hg6 hg7
  go_enter Tryz.func44, Tryz.ntmps44
  go_upto_region 1 with fail
  rw [← HW1.out, ← HP.out]
  refine wp_region_held_drew (S := fun w => w.heap[P]? = some (.cells #[.int .i64 ce, .int .i64 sl, .int .u64 (stp : Int), .int .i64 mu] 42 (0, 0))) (by kernel_rfl) (HX1.out) ?_
  intro hHeld
  refine wpAnyH_take (i := 0) (v := ?_) rfl (by kernel_rfl) (by kernel_rfl) (by kernel_rfl) (fun _ _ _ h => h) (Or.inl ⟨by rfl, ?_⟩) hHeld ?_
  rotate_left
  · intro w hSw
    (try dsimp only at hSw)
    go_simp
    try with_reducible rfl
  (try simp only [Act.put]); (try simp only [List.setIfInBounds_toArray]); (try simp only [List.getElem_toArray]); (repeat (first | simp only [List.getElem_cons_succ] | simp only [List.getElem_cons_zero])); (repeat (first | simp only [List.set_cons_succ] | simp only [List.set_cons_zero]))
  refine wpAnyH_take (i := 1) (v := ?_) rfl (by kernel_rfl) (by kernel_rfl) (by kernel_rfl) (fun _ _ _ h => h) (Or.inl ⟨by rfl, ?_⟩) hHeld ?_
  rotate_left
  · intro w hSw
    (try dsimp only at hSw)
    have y0 := cell_of hSw 0
    go_simp
    try with_reducible rfl
  (try simp only [Act.put]); (try simp only [List.setIfInBounds_toArray]); (try simp only [List.getElem_toArray]); (repeat (first | simp only [List.getElem_cons_succ] | simp only [List.getElem_cons_zero])); (repeat (first | simp only [List.set_cons_succ] | simp only [List.set_cons_zero]))
  refine wpAnyH_take (i := 5) (v := ?_) rfl (by kernel_rfl) (by kernel_rfl) (by kernel_rfl) (fun _ _ _ h => h) (Or.inl ⟨by rfl, ?_⟩) hHeld ?_
  rotate_left
  · intro w hSw
    (try dsimp only at hSw)
    go_simp
    try with_reducible rfl
  (try simp only [Act.put]); (try simp only [List.setIfInBounds_toArray]); (try simp only [List.getElem_toArray]); (repeat (first | simp only [List.getElem_cons_succ] | simp only [List.getElem_cons_zero])); (repeat (first | simp only [List.set_cons_succ] | simp only [List.set_cons_zero]))
  refine wpAnyH_take (i := 6) (v := ?_) rfl (by kernel_rfl) (by kernel_rfl) (by kernel_rfl) (fun _ _ _ h => h) (Or.inl ⟨by rfl, ?_⟩) hHeld ?_
  rotate_left
  · intro w hSw
    (try dsimp only at hSw)
    have y1 := cell_of hSw 1
    go_simp
    try with_reducible rfl
  (try simp only [Act.put]); (try simp only [List.setIfInBounds_toArray]); (try simp only [List.getElem_toArray]); (repeat (first | simp only [List.getElem_cons_succ] | simp only [List.getElem_cons_zero])); (repeat (first | simp only [List.set_cons_succ] | simp only [List.set_cons_zero]))
  refine wpAnyH_take (i := 10) (v := ?_) rfl (by kernel_rfl) (by kernel_rfl) (by kernel_rfl) (fun _ _ _ h => h) (Or.inl ⟨by rfl, ?_⟩) hHeld ?_
  rotate_left
  · intro w hSw
    (try dsimp only at hSw)
    go_simp
    try with_reducible rfl
  (try simp only [Act.put]); (try simp only [List.setIfInBounds_toArray]); (try simp only [List.getElem_toArray]); (repeat (first | simp only [List.getElem_cons_succ] | simp only [List.getElem_cons_zero])); (repeat (first | simp only [List.set_cons_succ] | simp only [List.set_cons_zero]))
  refine wpAnyH_take (i := 11) (v := ?_) rfl (by kernel_rfl) (by kernel_rfl) (by kernel_rfl) (fun _ _ _ h => h) (Or.inl ⟨by rfl, ?_⟩) hHeld ?_
  rotate_left
  · intro w hSw
    (try dsimp only at hSw)
    have y2 := cell_of hSw 2
    go_simp
    try with_reducible rfl
  (try simp only [Act.put]); (try simp only [List.setIfInBounds_toArray]); (try simp only [List.getElem_toArray]); (repeat (first | simp only [List.getElem_cons_succ] | simp only [List.getElem_cons_zero])); (repeat (first | simp only [List.set_cons_succ] | simp only [List.set_cons_zero]))
  refine wpAnyH_take (i := 15) (v := ?_) rfl (by kernel_rfl) (by kernel_rfl) (by kernel_rfl) (fun _ _ _ h => h) (Or.inl ⟨by rfl, ?_⟩) hHeld ?_
  rotate_left
  · intro w hSw
    (try dsimp only at hSw)
    go_simp
    try with_reducible rfl
  (try simp only [Act.put]); (try simp only [List.setIfInBounds_toArray]); (try simp only [List.getElem_toArray]); (repeat (first | simp only [List.getElem_cons_succ] | simp only [List.getElem_cons_zero])); (repeat (first | simp only [List.set_cons_succ] | simp only [List.set_cons_zero]))
  refine wpAnyH_take (i := 16) (v := ?_) rfl (by kernel_rfl) (by kernel_rfl) (by kernel_rfl) (fun _ _ _ h => h) (Or.inl ⟨by rfl, ?_⟩) hHeld ?_
  rotate_left
  · intro w hSw
    (try dsimp only at hSw)
    have y3 := cell_of hSw 3
    go_simp
    try with_reducible rfl
  (try simp only [Act.put]); (try simp only [List.setIfInBounds_toArray]); (try simp only [List.getElem_toArray]); (repeat (first | simp only [List.getElem_cons_succ] | simp only [List.getElem_cons_zero])); (repeat (first | simp only [List.set_cons_succ] | simp only [List.set_cons_zero]))
  refine wpAnyH_ready (rs := [2]) (by kernel_rfl) (by simp) ?_
  refine AllReadyH.cons rfl (fun KK hKK => ?_) AllReadyH.nil
  go_simp
  refine (HA.out _ (below_drewN HB1.out 1)).mono ?_
  rintro e v1 ⟨rfl, D9⟩
  have HV1 := keepH (below_chain (below_drewN HB1.out 1) D9)
  have hcc := heap_below hHeld D9
  clear D9
  refine hKK.out _ _ ?_ (fun hHeld => ?_)
  · exact hcc
  clear hKK KK
  (try simp only [Act.put]); (try simp only [List.setIfInBounds_toArray]); (try simp only [List.getElem_toArray]); (repeat (first | simp only [List.getElem_cons_succ] | simp only [List.getElem_cons_zero])); (repeat (first | simp only [List.set_cons_succ] | simp only [List.set_cons_zero]))
  refine wpAnyH_take (i := 3) (v := ?_) rfl (by kernel_rfl) (by kernel_rfl) (by kernel_rfl) (fun _ _ _ h => h) (Or.inl ⟨by rfl, ?_⟩) hHeld ?_
  rotate_left
  · intro w hSw
    (try dsimp only at hSw)
    go_simp
    try with_reducible rfl
  (try simp only [Act.put]); (try simp only [List.setIfInBounds_toArray]); (try simp only [List.getElem_toArray]); (repeat (first | simp only [List.getElem_cons_succ] | simp only [List.getElem_cons_zero])); (repeat (first | simp only [List.set_cons_succ] | simp only [List.set_cons_zero]))
  refine wpAnyH_take (i := 4) (v := ?_) rfl (by kernel_rfl) (by kernel_rfl) (by kernel_rfl) (fun _ _ _ h => h) (Or.inl ⟨by rfl, ?_⟩) hHeld ?_
  rotate_left
  · intro w hSw
    (try dsimp only at hSw)
    go_simp
    try with_reducible rfl
  (try simp only [Act.put]); (try simp only [List.setIfInBounds_toArray]); (try simp only [List.getElem_toArray]); (repeat (first | simp only [List.getElem_cons_succ] | simp only [List.getElem_cons_zero])); (repeat (first | simp only [List.set_cons_succ] | simp only [List.set_cons_zero]))
  refine wpAnyH_ready (rs := [7]) (by kernel_rfl) (by simp) ?_
  refine AllReadyH.cons rfl (fun KK hKK => ?_) AllReadyH.nil
  go_simp
  refine (HBb.out _ HV1.out).mono ?_
  rintro e v2 ⟨rfl, D9⟩
  have HV2 := keepH (below_chain HV1.out D9)
  have hcc := heap_below hHeld D9
  clear D9
  refine hKK.out _ _ ?_ (fun hHeld => ?_)
  · exact hcc
  clear hKK KK
  (try simp only [Act.put]); (try simp only [List.setIfInBounds_toArray]); (try simp only [List.getElem_toArray]); (repeat (first | simp only [List.getElem_cons_succ] | simp only [List.getElem_cons_zero])); (repeat (first | simp only [List.set_cons_succ] | simp only [List.set_cons_zero]))
  refine wpAnyH_take (i := 8) (v := ?_) rfl (by kernel_rfl) (by kernel_rfl) (by kernel_rfl) (fun _ _ _ h => h) (Or.inl ⟨by rfl, ?_⟩) hHeld ?_
  rotate_left
  · intro w hSw
    (try dsimp only at hSw)
    go_simp
    try with_reducible rfl
  (try simp only [Act.put]); (try simp only [List.setIfInBounds_toArray]); (try simp only [List.getElem_toArray]); (repeat (first | simp only [List.getElem_cons_succ] | simp only [List.getElem_cons_zero])); (repeat (first | simp only [List.set_cons_succ] | simp only [List.set_cons_zero]))
  refine wpAnyH_take (i := 9) (v := ?_) rfl (by kernel_rfl) (by kernel_rfl) (by kernel_rfl) (fun _ _ _ h => h) (Or.inl ⟨by rfl, ?_⟩) hHeld ?_
  rotate_left
  · intro w hSw
    (try dsimp only at hSw)
    go_simp
    try with_reducible rfl
  (try simp only [Act.put]); (try simp only [List.setIfInBounds_toArray]); (try simp only [List.getElem_toArray]); (repeat (first | simp only [List.getElem_cons_succ] | simp only [List.getElem_cons_zero])); (repeat (first | simp only [List.set_cons_succ] | simp only [List.set_cons_zero]))
  refine wpAnyH_ready (rs := [12]) (by kernel_rfl) (by simp) ?_
  refine AllReadyH.cons rfl (fun KK hKK => ?_) AllReadyH.nil
  go_simp
  refine (HC.out _ HV2.out).mono ?_
  rintro e v3 ⟨rfl, D9⟩
  have HV3 := keepH (below_chain HV2.out D9)
  have hcc := heap_below hHeld D9
  clear D9
  refine hKK.out _ _ ?_ (fun hHeld => ?_)
  · exact hcc
  clear hKK KK
  (try simp only [Act.put]); (try simp only [List.setIfInBounds_toArray]); (try simp only [List.getElem_toArray]); (repeat (first | simp only [List.getElem_cons_succ] | simp only [List.getElem_cons_zero])); (repeat (first | simp only [List.set_cons_succ] | simp only [List.set_cons_zero]))
  refine wpAnyH_take (i := 13) (v := ?_) rfl (by kernel_rfl) (by kernel_rfl) (by kernel_rfl) (fun _ _ _ h => h) (Or.inl ⟨by rfl, ?_⟩) hHeld ?_
  rotate_left
  · intro w hSw
    (try dsimp only at hSw)
    go_simp
    try with_reducible rfl
  (try simp only [Act.put]); (try simp only [List.setIfInBounds_toArray]); (try simp only [List.getElem_toArray]); (repeat (first | simp only [List.getElem_cons_succ] | simp only [List.getElem_cons_zero])); (repeat (first | simp only [List.set_cons_succ] | simp only [List.set_cons_zero]))
  refine wpAnyH_take (i := 14) (v := ?_) rfl (by kernel_rfl) (by kernel_rfl) (by kernel_rfl) (fun _ _ _ h => h) (Or.inl ⟨by rfl, ?_⟩) hHeld ?_
  rotate_left
  · intro w hSw
    (try dsimp only at hSw)
    go_simp
    try with_reducible rfl
  (try simp only [Act.put]); (try simp only [List.setIfInBounds_toArray]); (try simp only [List.getElem_toArray]); (repeat (first | simp only [List.getElem_cons_succ] | simp only [List.getElem_cons_zero])); (repeat (first | simp only [List.set_cons_succ] | simp only [List.set_cons_zero]))
  refine wpAnyH_ready (rs := [17]) (by kernel_rfl) (by simp) ?_
  refine AllReadyH.cons rfl (fun KK hKK => ?_) AllReadyH.nil
  go_simp
  refine (HD.out _ HV3.out).mono ?_
  rintro e v4 ⟨rfl, D9⟩
  have HV4 := keepH (below_chain HV3.out D9)
  have hcc := heap_below hHeld D9
  clear D9
  refine hKK.out _ _ ?_ (fun hHeld => ?_)
  · exact hcc
  clear hKK KK
  (try simp only [Act.put]); (try simp only [List.setIfInBounds_toArray]); (try simp only [List.getElem_toArray]); (repeat (first | simp only [List.getElem_cons_succ] | simp only [List.getElem_cons_zero])); (repeat (first | simp only [List.set_cons_succ] | simp only [List.set_cons_zero]))
  refine wpAnyH_take (i := 18) (v := ?_) rfl (by kernel_rfl) (by kernel_rfl) (by kernel_rfl) (fun _ _ _ h => h) (Or.inl ⟨by rfl, ?_⟩) hHeld ?_
  rotate_left
  · intro w hSw
    (try dsimp only at hSw)
    go_simp
    try with_reducible rfl
  (try simp only [Act.put]); (try simp only [List.setIfInBounds_toArray]); (try simp only [List.getElem_toArray]); (repeat (first | simp only [List.getElem_cons_succ] | simp only [List.getElem_cons_zero])); (repeat (first | simp only [List.set_cons_succ] | simp only [List.set_cons_zero]))
  refine wpAnyH_take (i := 19) (v := ?_) rfl (by kernel_rfl) (by kernel_rfl) (by kernel_rfl) (fun _ _ _ h => h) (Or.inl ⟨by rfl, ?_⟩) hHeld ?_
  rotate_left
  · intro w hSw
    (try dsimp only at hSw)
    go_simp
    try with_reducible rfl
  (try simp only [Act.put]); (try simp only [List.setIfInBounds_toArray]); (try simp only [List.getElem_toArray]); (repeat (first | simp only [List.getElem_cons_succ] | simp only [List.getElem_cons_zero])); (repeat (first | simp only [List.set_cons_succ] | simp only [List.set_cons_zero]))
  refine wpAnyH_done (by kernel_rfl) ?_ _
  go_simp
  clear hHeld
  go_wp2_with fail
  go_ret
  exact ⟨rfl, HV4.out⟩
end Go.Proofs.YtmmaniolaljjlaaGreatDoor
/- The text of a script. -/
namespace Go.Proofs.YtmmaniolaljjlaaGreatDoor
open Go.RowKit Go.Shelf
set_option linter.unusedVariables false

def thW : List UInt8 := [116, 104, 114, 101, 97, 100]
theorem drop_at {α : Type} {l : List α} {i : Nat} {x : α} (h : l[i]? = some x) : l.drop i = x :: l.drop (i + 1) := by
  obtain ⟨hi, rfl⟩ := List.getElem?_eq_some_iff.1 h
  exact List.drop_eq_getElem_cons hi
/-- while a script is printed -/
structure PB (W : World) (B b P : Nat) (row : Array Value) (t : List UInt8) (wr : World) : Prop where
  bel : Below W.heap.size W wr
  bld : Lib.IsBuilderF 79 5 B b (Lib.byteCells t) wr
  box : wr.heap[P]? = some (.cells row 46 (0, 0))
  lP : P < B
  lW : W.heap.size ≤ B
  hi : B ≤ wr.heap.size
theorem PB.on {W : World} {B b P : Nat} {row : Array Value} {t : List UInt8} {wr X : World} (h : PB W B b P row t wr) (hb : Below wr.heap.size wr X) : PB W B b P row t X :=
  ⟨below_chain h.bel hb, isF_onS h.bld hb, heap_below h.box hb, h.lP, h.lW, Nat.le_trans h.hi hb.size⟩
theorem IRd.drop {W : World} {bk off off' : Nat} {l : List Int} {i : Nat} (h : IRd W (some ⟨bk, off, none⟩) l) (e : i < l.length → off' = off + i) : IRd W (some ⟨bk, off', none⟩) (l.drop i) := by
  rcases h with rfl | ⟨bk', off2, hp, hb, h⟩
  · exact .inl (by simp)
  · simp only [Option.some.injEq, Addr.mk.injEq, and_true] at hp
    obtain ⟨rfl, rfl⟩ := hp
    refine .inr ⟨bk, off', rfl, hb, fun j x hx => ?_⟩
    rw [List.getElem?_drop] at hx
    have hlt := (List.getElem?_eq_some_iff.1 hx).1
    rw [e (by omega), Nat.add_assoc]
    exact h _ _ hx
theorem IRd.take {W : World} {p : Option Addr} {l : List Int} (h : IRd W p l) (i : Nat) : IRd W p (l.take i) := by
  rcases h with rfl | ⟨bk, off, hp, hb, h⟩
  · exact .inl (by simp)
  · refine .inr ⟨bk, off, hp, hb, fun j x hx => ?_⟩
    rw [List.getElem?_take] at hx
    split at hx
    · exact h j x hx
    · cases hx
end Go.Proofs.YtmmaniolaljjlaaGreatDoor
/- The document's numbers. -/
namespace Go.Proofs.YtmmaniolaljjlaaGreatDoor
open Go.RowKit Go.Shelf Go.Maps
set_option linter.unusedVariables false

def NumQ (f : List UInt8) (v : Value) : Prop := ∃ u : Nat, v = .int .u64 (u : Int) ∧ isU u ∧ ∀ z, natP f = some z → u = z
set_option maxRecDepth 100000 in
theorem dNumber_any (f : List UInt8) (hf : f.length ≤ 200000000) (w : World) (T : Tb w) : Calls Tryz.prog 80 #[.string (mkS f)] w fun e w' => ∃ v, e = .returned v ∧ NumQ f v ∧ Below w.heap.size w w' := by
  by_cases hp : ∃ u, Lib.parseMag f = .ok u
  · obtain ⟨u, hp⟩ := hp
    have h1 := pu_ok f hf u hp w
    have HQ : Hid (NumQ f (.int .u64 (u : Int))) := keepH ⟨u, rfl, Lib.parseMag_lt hp, fun z hz => by
      unfold natP at hz
      rw [hp] at hz
      simp only at hz
      split at hz
      · injection hz
      · cases hz⟩
    obtain ⟨s, hs⟩ : ∃ s, s = mkS f := ⟨_, rfl⟩
    rw [← hs] at h1 ⊢
    clear hs hp T
    go_enter Tryz.func80, Tryz.ntmps80
    go_wp2_with fail
    refine h1.mono ?_
    rintro e w1 ⟨rfl, hb⟩
    go_wp2_with fail
    go_ret
    exact ⟨_, rfl, HQ.out, hb⟩
  · have h1 := pu_no f hf (fun u e => hp ⟨u, e⟩) w T
    have hnone : Hid (∀ z, natP f ≠ some z) := keepH (fun z hz => by
      unfold natP at hz
      split at hz
      · rename_i u hu
        exact hp ⟨u, hu⟩
      · cases hz)
    obtain ⟨s, hs⟩ : ∃ s, s = mkS f := ⟨_, rfl⟩
    rw [← hs] at h1 ⊢
    clear hs hp T
    go_enter Tryz.func80, Tryz.ntmps80
    go_wp2_with fail
    refine h1.mono ?_
    rintro e w1 ⟨⟨u, t, p, hu, rfl⟩, hb⟩
    go_wp2_with fail
    go_ret
    exact ⟨_, rfl, ⟨u, rfl, hu, fun z hz => absurd hz (hnone.out z)⟩, hb⟩


/-- each is the number of its text, where the text is one's -/
def NumsQ (fs : List (List UInt8)) (us : List Nat) : Prop := us.length = fs.length ∧ (∀ u ∈ us, isU u) ∧ ∀ (i : Nat) (f : List UInt8) (u z : Nat), fs[i]? = some f → us[i]? = some u → natP f = some z → u = z
theorem NumsQ.dec {us us' : List Nat} (h : NumsQ (us'.map Lib.decDigits) us) (hu : ∀ u ∈ us', isU u) : us = us' := by
  apply List.ext_getElem
  · rw [h.1, List.length_map]
  · intro i h1 h2
    exact h.2.2 i _ _ _ (by rw [List.getElem?_map, List.getElem?_eq_getElem h2]; rfl) (List.getElem?_eq_getElem h1) (natP_dec _ (hu _ (List.getElem_mem h2)))
set_option maxRecDepth 100000 in
set_option maxHeartbeats 4000000 in
theorem dNumbers_any (p : Option Addr) (c : Nat) (fs : List (List UInt8)) (hl : fs.length ≤ 200000000) (hf : ∀ f ∈ fs, f.length ≤ 200000000) (W : World) (T : Tb W) (h : SRd W p fs) :
    Calls Tryz.prog 34 #[.slice p fs.length c] W fun e W' => ∃ us v, e = .returned v ∧ NumsQ fs us ∧ StU W us v W' := by
  have HNA := keepH (fun f (hm : f ∈ fs) w (hb : Below W.heap.size W w) => dNumber_any f (hf f hm) w (T.on hb))
  have HR := keepH h
  obtain ⟨n, hn⟩ : ∃ n, n = fs.length := ⟨_, rfl⟩
  have HN := keepH hn
  rw [← hn] at hl ⊢
  obtain ⟨i0, hi0, hz0, hz1, hz2⟩ := info_parts infoUk
  have HI := keepH hi0
  clear h T hf hn hi0
  go_enter Tryz.func34, Tryz.ntmps34
  go_wp2_with fail
  go_loopw [3, 4] (fun v s wr => ∃ i : Nat, i ≤ n ∧ s = .int .i64 (i : Int) ∧ Hid (∃ us, NumsQ (fs.take i) us ∧ StU W us v wr)) (fun _ s _ => n - (intOf s).toNat)
  case atStart => exact ⟨0, by omega, rfl, keepH ⟨[], ⟨by simp, fun u hu => by simp at hu, fun i f u z hh => by simp at hh⟩, World.ownsRow_nil _ _ _ _, Below.refl _ _, fun b hb => by simp [Value.ownBlock] at hb⟩⟩
  case round =>
    obtain ⟨i, him, rfl, HK⟩ := hrel
    obtain ⟨us, hus, hst⟩ := HK.out
    have HUS := keepH hus
    have HST := keepH hst
    have hul : us.length = i := by
      rw [hus.1, List.length_take]
      have := HN.out
      omega
    have HUL := keepH hul
    clear hus hst HK hul
    by_cases hlt : i < n
    · have t1 : (i : Int) < (n : Int) := by omega
      have t0 : (0 : Int) ≤ (i : Int) := by omega
      obtain ⟨f, hfi⟩ : ∃ f, fs[i]? = some f := ⟨fs[i]'(by have := HN.out; omega), List.getElem?_eq_getElem _⟩
      obtain ⟨bk, off, rfl, hbk, c0⟩ := (HR.out.on HST.out.bel).get i f hfi
      have HQ := keepH (HNA.out f (List.mem_of_getElem? hfi) wr HST.out.bel)
      have HFI := keepH hfi
      obtain ⟨sf, hsf⟩ : ∃ s, s = mkS f := ⟨_, rfl⟩
      rw [← hsf] at c0 HQ
      clear hfi hsf
      go_wp2_with fail
      refine HQ.out.mono ?_
      rintro e w2 ⟨v2, rfl, ⟨x, rfl, hxu, hxz⟩, B2⟩
      have HS2 := keepH (HST.out.on B2)
      have HNX : Hid (NumsQ (fs.take (i + 1)) (us ++ [x])) := keepH (by
        refine ⟨by rw [List.length_append, HUS.out.1, List.take_add_one, HFI.out]; simp, fun u hu => ?_, fun j f' u z h1 h2 h3 => ?_⟩
        · rcases List.mem_append.1 hu with hu | hu
          · exact HUS.out.2.1 u hu
          · simp at hu; subst hu; exact hxu
        · rw [List.take_add_one, HFI.out] at h1
          have hil : (fs.take i).length = i := by rw [← HUS.out.1, HUL.out]
          by_cases hj : j < i
          · rw [List.getElem?_append_left (by omega)] at h1
            rw [List.getElem?_append_left (by rw [HUL.out]; exact hj)] at h2
            exact HUS.out.2.2 j f' u z h1 h2 h3
          · rw [List.getElem?_append_right (by omega), hil] at h1
            rw [List.getElem?_append_right (by rw [HUL.out]; omega), HUL.out] at h2
            have hj0 : j - i = 0 := by
              have := (List.getElem?_eq_some_iff.1 h2).1
              simp at this
              exact this
            rw [hj0] at h1 h2
            simp at h1 h2
            subst h1 h2
            exact hxz z h3)
      obtain ⟨fl, hfl⟩ : ∃ fl, fl = us.length := ⟨_, rfl⟩
      have hfl2 : fl ≤ 200000000 := by have := HUL.out; omega
      have HRW : Hid (w2.ownsRow 0 23 1 u3 fl (uRow us)) := keepH (by rw [hfl]; exact HS2.out.row)
      have hi0 := HI.out
      have HFL := keepH hfl
      clear hfl hxu hxz B2 c0
      go_wp2_with (first | (at_builtin; refine wpList_append_own_at _ rfl (.tmp 11) (.tmp 17) 26 rfl 0 23 i0 (.int .u64 0) 1 8 Tryz.underlying26 hi0 hz0 hz1 hz2 rfl (by decide) u3 fl (uRow us) rfl (HRW.out.alloc _) ⟨w2.heap.size, 0, none⟩ 1 1 [.int .u64 (x : Int)] rfl rfl (cells_newR _ _ rfl _ _) (by intro u hu; simp at hu; subst hu; rfl) (by unfold maxLen; omega) (by omega) (Nat.zero_le _) ?_; intro v9 w9 r1 r2 r3 r4; have R1 := keepH r1; have R2 := keepH r2; have R4 := keepH r4; clear r1 r2 r3 r4) | go_in)
      have HNS := keepH (HS2.out.more (x := x) (by rw [← HFL.out]; exact R1.out) R2.out R4.out)
      go_roundw
      case rel => exact ⟨i + 1, by omega, by first | rfl | go_num, keepH ⟨_, HNX.out, HNS.out⟩⟩
      case measure => simp [intOf]; omega
    · obtain rfl : i = n := by omega
      have t1 : ¬ (i : Int) < (i : Int) := by omega
      have hu := HUS.out
      rw [HN.out, List.take_length] at hu
      have HU := keepH hu
      clear hu
      go_wp2_with fail
      go_ret
      exact ⟨us, u3, by simp, HU.out, HST.out⟩
end Go.Proofs.YtmmaniolaljjlaaGreatDoor
/- A handle that is read, by the document. -/
namespace Go.Proofs.YtmmaniolaljjlaaGreatDoor
open Go.RowKit Go.Shelf
set_option linter.unusedVariables false

def AtQ (f : List UInt8) (v : Value) : Prop := ∃ (x : Int) (p : Value), v = .tuple #[.int .i64 x, p] ∧ (-9223372036854775808 ≤ x ∧ x < 9223372036854775808) ∧ ∀ z, Lib.atoiAll f = .ok z → x = z
theorem atoi_each (f : List UInt8) (hf : f.length ≤ 200000000) (w : World) (T : Tb w) :
    Calls Tryz.prog 81 #[.string (mkS f)] w fun e w' => ∃ v, e = .returned v ∧ AtQ f v ∧ Below w.heap.size w w' := by
  cases hp : Lib.atoiAll f with
  | ok u =>
    refine (atoi_ok f hf u hp w).mono ?_
    rintro e w' ⟨rfl, hb⟩
    exact ⟨_, rfl, ⟨u, _, rfl, atoi_range hp, fun v h => by rw [hp] at h; injection h⟩, hb⟩
  | «syntax» =>
    obtain ⟨a, b, h2⟩ := T.es
    refine (Any.strconv_Atoi_syntax_var Tryz.lays172 (mkS f) (by rw [mkS_size]; omega) (by simpa using hp) a b w h2).mono ?_
    rintro e w' ⟨N, rfl, -, -, hb⟩
    exact ⟨_, rfl, ⟨0, _, rfl, by decide, fun v h => by rw [hp] at h; cases h⟩, hb⟩
  | range =>
    obtain ⟨a, b, h2⟩ := T.er
    refine (Any.strconv_Atoi_range_var Tryz.lays172 (mkS f) (by rw [mkS_size]; omega) (by simpa using hp) a b w h2).mono ?_
    rintro e w' ⟨N, rfl, -, -, hb⟩
    exact ⟨_, rfl, ⟨_, _, rfl, by unfold Lib.atoiSat; split <;> decide, fun v h => by rw [hp] at h; cases h⟩, hb⟩


def RfQ (f : List UInt8) (hnd : Nat) (set : Bool) (rt ri : Int) : Prop := isU hnd ∧ isI rt ∧ isI ri ∧ ∀ h s a b, isU h → isI a → isI b → rhB h s a b = true → f = hText h s a b → hnd = h ∧ set = s ∧ rt = a ∧ ri = b
theorem rf_nat {f : List UInt8} {u : Nat} (hn : f.head? ≠ some 64) (hu : isU u) (hz : ∀ z, natP f = some z → u = z) : RfQ f u false 0 0 := by
  refine ⟨hu, ⟨by omega, by omega⟩, ⟨by omega, by omega⟩, fun h s a b hh ha hb hr he => ?_⟩
  cases s with
  | true =>
    exfalso
    have := (hText_head (h := h) (s := true) (a := a) (b := b)).2 rfl
    rw [← he] at this
    exact hn this
  | false =>
    have e2 : f = Lib.decDigits h := he
    have := hz h (by rw [e2]; exact natP_dec h hh)
    simp [rhB] at hr
    exact ⟨this, rfl, hr.1.symm, hr.2.symm⟩
theorem rf_ref {r l q : List UInt8} {x y : Int} (hc : CutP r l q) (hx : isI x) (hy : isI y) (zx : ∀ z, Lib.atoiAll l = .ok z → x = z) (zy : ∀ z, Lib.atoiAll q = .ok z → y = z) : RfQ (64 :: r) 0 true x y := by
  refine ⟨by unfold isU; omega, hx, hy, fun h s a b hh ha hb hr he => ?_⟩
  have hs : s = true := hText_head.1 (by rw [← he]; rfl)
  subst hs
  have e3 : r = Lib.itoa a ++ 46 :: Lib.itoa b := by simpa [hText] using he
  have h0 : h = 0 := by simp [rhB] at hr; exact hr.1
  rcases hc with ⟨rfl, hl⟩ | ⟨hn, _, _⟩
  · obtain ⟨e4, e5⟩ := noB_cutG hl (itoa_dot a) e3
    exact ⟨h0.symm, rfl, zx a (by rw [e4]; exact atoi_itoa a ha.1 ha.2), zy b (by rw [e5]; exact atoi_itoa b hb.1 hb.2)⟩
  · exact absurd rfl (hn 46 (by rw [e3]; simp))
structure RF (W : World) (P R : Nat) (row : Array Value) (wr : World) : Prop where
  bx : wr.heap[P]? = some (.cells row 28 (0, 0))
  rr : wr.heap[R]? = some (.cells (opR 0 0 0 0 0 false 0 0 (.slice none 0 0) 0 0) 28 (0, 0))
  bel : Below W.heap.size W wr
  lp : W.heap.size ≤ P
  lr : W.heap.size ≤ R
  ne : R ≠ P
theorem RF.on {W : World} {P R : Nat} {row : Array Value} {wr X : World} (h : RF W P R row wr) (hb : Below wr.heap.size wr X) : RF W P R row X := ⟨heap_below h.bx hb, heap_below h.rr hb, below_chain h.bel hb, h.lp, h.lr, h.ne⟩
theorem RF.set {W : World} {P R : Nat} {row : Array Value} {wr : World} (h : RF W P R row wr) (i : Nat) (v : Value) : RF W P R (row.setIfInBounds i v) (wr.setCell ⟨P, i, none⟩ v) := ⟨set_of h.bx i v, other_of h.rr h.ne v, h.bel.setCell h.lp _, h.lp, h.lr, h.ne⟩
def RefQ (W : World) (k : Nat) (f : List UInt8) (e : Ending) (W' : World) : Prop := ∃ hnd set rt ri, e = .returned (.agg (opR k 0 0 0 hnd set rt ri (.slice none 0 0) 0 0)) ∧ RfQ f hnd set rt ri ∧ Below W.heap.size W W'
set_option maxRecDepth 100000 in
set_option maxHeartbeats 4000000 in
theorem ref_nat (k : Nat) (f : List UInt8) (hf : f.length ≤ 200000000) (hn : f.head? ≠ some 64) (W : World) (T : Tb W) :
    Calls Tryz.prog 33 #[.agg (opR k 0 0 0 0 false 0 0 (.slice none 0 0) 0 0), .string (mkS f)] W (RefQ W k f) := by
  obtain ⟨w2, hw2⟩ : ∃ w2, w2 = (W.alloc (.cells (opR k 0 0 0 0 false 0 0 (.slice none 0 0) 0 0) 28)).alloc (.cells (opR 0 0 0 0 0 false 0 0 (.slice none 0 0) 0 0) 28) := ⟨_, rfl⟩
  obtain ⟨P, hP⟩ : ∃ P, P = W.heap.size := ⟨_, rfl⟩
  obtain ⟨R, hR⟩ : ∃ R, R = W.heap.size + 1 := ⟨_, rfl⟩
  have hS2 : RF W P R (opR k 0 0 0 0 false 0 0 (.slice none 0 0) 0 0) w2 := by
    rw [hw2, hP, hR]
    refine ⟨?_, ?_, (below_alloc _ _).trans ((below_alloc _ _).mono (by simp)), Nat.le_refl _, by omega, by omega⟩
    · rw [Below.heap_alloc _ _ _ (by simp)]
      exact heap_alloc_new _ _
    · have := heap_alloc_new (W.alloc (.cells (opR k 0 0 0 0 false 0 0 (.slice none 0 0) 0 0) 28)) (.cells (opR 0 0 0 0 0 false 0 0 (.slice none 0 0) 0 0) 28)
      simpa using this
  have HS2 := keepH hS2
  have HW2 := keepH hw2
  have HP := keepH hP
  have HR := keepH hR
  have HNU := keepH (dNumber_any f hf w2 (T.on hS2.bel))
  have HN := keepH hn
  have hsz : (mkS f).size = f.length := mkS_size f
  clear hS2 hw2 hP hR T
  cases f with
  | nil =>
    obtain ⟨s, hs⟩ : ∃ s, s = mkS ([] : List UInt8) := ⟨_, rfl⟩
    rw [← hs] at HNU hsz ⊢
    have z0 : ((s.size : Int) == 0) = true := by rw [hsz]; rfl
    clear hs hn hsz
    go_enter Tryz.func33, Tryz.ntmps33
    go_upto_region 1 with fail
    rw [show (W.alloc (.cells (opR k 0 0 0 0 false 0 0 (.slice none 0 0) 0 0) 28)).alloc (.cells #[.int .u8 0, .int .u64 0, .int .u64 0, .int .u64 0, .int .u64 0, .bool false, .int .i64 0, .int .i64 0, .slice none 0 0, .int .u64 0, .int .u64 0] 28) = w2 from HW2.out.symm, ← HR.out, ← HP.out]
    go_wp2_with fail
    refine HNU.out.mono ?_
    rintro e w3 ⟨v, rfl, ⟨u, rfl, huu, huz⟩, B3⟩
    have HQ := keepH (rf_nat HN.out huu huz)
    have HS3 := keepH (HS2.out.on B3)
    have p4 : w3.cell? ⟨P, 4, none⟩ = _ := cell_of HS3.out.bx 4
    have q4 : w3.frozen? ⟨P, 4, none⟩ = false := free_of HS3.out.bx 4
    obtain ⟨w4, hw4⟩ : ∃ w4, w4 = w3.setCell ⟨P, 4, none⟩ (.int .u64 (u : Int)) := ⟨_, rfl⟩
    have HS4 : Hid (RF W P R (opR k 0 0 0 u false 0 0 (.slice none 0 0) 0 0) w4) := keepH (by rw [hw4]; exact HS3.out.set 4 _)
    have HW4 := keepH hw4
    clear huu huz B3 hw4
    go_upto_region 3 with fail
    rw [← HW4.out]
    clear p4 q4
    have d0 : w4.cell? ⟨P, 0, none⟩ = _ := cell_of HS4.out.bx 0
    have d1 : w4.cell? ⟨P, 1, none⟩ = _ := cell_of HS4.out.bx 1
    have d2 : w4.cell? ⟨P, 2, none⟩ = _ := cell_of HS4.out.bx 2
    have d3 : w4.cell? ⟨P, 3, none⟩ = _ := cell_of HS4.out.bx 3
    have d4 : w4.cell? ⟨P, 4, none⟩ = _ := cell_of HS4.out.bx 4
    have d5 : w4.cell? ⟨P, 5, none⟩ = _ := cell_of HS4.out.bx 5
    have d6 : w4.cell? ⟨P, 6, none⟩ = _ := cell_of HS4.out.bx 6
    have d7 : w4.cell? ⟨P, 7, none⟩ = _ := cell_of HS4.out.bx 7
    have d8 : w4.cell? ⟨P, 8, none⟩ = _ := cell_of HS4.out.bx 8
    have d9 : w4.cell? ⟨P, 9, none⟩ = _ := cell_of HS4.out.bx 9
    have d10 : w4.cell? ⟨P, 10, none⟩ = _ := cell_of HS4.out.bx 10
    go_wp2_with (first | (refine wpList_store_row rfl 28 _ _ rfl R (opR k 0 0 0 u false 0 0 (.slice none 0 0) 0 0) rfl rfl 28 (opR 0 0 0 0 0 false 0 0 (.slice none 0 0) 0 0) HS4.out.rr (by kernel_rfl) rfl (by simp [Value.oneCell']) ?_) | fail)
    have hrow := setRow_heap _ R _ (opR k 0 0 0 u false 0 0 (.slice none 0 0) 0 0) 28 (0, 0) HS4.out.rr
    have e0 := cell_of hrow 0
    have e1 := cell_of hrow 1
    have e2 := cell_of hrow 2
    have e3 := cell_of hrow 3
    have e4 := cell_of hrow 4
    have e5 := cell_of hrow 5
    have e6 := cell_of hrow 6
    have e7 := cell_of hrow 7
    have e8 := cell_of hrow 8
    have e9 := cell_of hrow 9
    have e10 := cell_of hrow 10
    simp at e0 e1 e2 e3 e4 e5 e6 e7 e8 e9 e10
    refine bodyPost_ret (v := .agg (opR k 0 0 0 u false 0 0 (.slice none 0 0) 0 0)) (by simp [results, Tryz.results33, go_sem, e0, e1, e2, e3, e4, e5, e6, e7, e8, e9, e10]) rfl ?_
    exact ⟨u, false, 0, 0, rfl, HQ.out, below_setRow HS4.out.bel HS4.out.lr _⟩
  | cons c r =>
    obtain ⟨x, hx, hxi⟩ := idx_str (c :: r) 0 (by simp) 64
    have hx0 : ∀ W, (Instr.index 9 (.string (mkS (c :: r))) (.int .i64 0)).run Tryz.prog W = .ok (.int .u8 (x : Int)) W := fun W => by simpa using hx W
    have hne : ¬ ((x : Int) = 64) := by
      intro e
      have : x = (64 : UInt8).toNat := by
        show x = 64
        omega
      have := hxi.1 this
      simp at this
      exact hn (by simp [this])
    have une : ((x : Int) != 64) = true := by simpa using hne
    obtain ⟨s, hs⟩ : ∃ s, s = mkS (c :: r) := ⟨_, rfl⟩
    rw [← hs] at HNU hsz hx0 ⊢
    have z0 : ((s.size : Int) == 0) = false := by rw [hsz]; simp; omega
    clear hs hn hsz hx hxi
    go_enter Tryz.func33, Tryz.ntmps33
    go_upto_region 1 with fail
    rw [show (W.alloc (.cells (opR k 0 0 0 0 false 0 0 (.slice none 0 0) 0 0) 28)).alloc (.cells #[.int .u8 0, .int .u64 0, .int .u64 0, .int .u64 0, .int .u64 0, .bool false, .int .i64 0, .int .i64 0, .slice none 0 0, .int .u64 0, .int .u64 0] 28) = w2 from HW2.out.symm, ← HR.out, ← HP.out]
    go_wp2_with fail
    refine HNU.out.mono ?_
    rintro e w3 ⟨v, rfl, ⟨u, rfl, huu, huz⟩, B3⟩
    have HQ := keepH (rf_nat HN.out huu huz)
    have HS3 := keepH (HS2.out.on B3)
    have p4 : w3.cell? ⟨P, 4, none⟩ = _ := cell_of HS3.out.bx 4
    have q4 : w3.frozen? ⟨P, 4, none⟩ = false := free_of HS3.out.bx 4
    obtain ⟨w4, hw4⟩ : ∃ w4, w4 = w3.setCell ⟨P, 4, none⟩ (.int .u64 (u : Int)) := ⟨_, rfl⟩
    have HS4 : Hid (RF W P R (opR k 0 0 0 u false 0 0 (.slice none 0 0) 0 0) w4) := keepH (by rw [hw4]; exact HS3.out.set 4 _)
    have HW4 := keepH hw4
    clear huu huz B3 hw4
    go_upto_region 3 with fail
    rw [← HW4.out]
    clear p4 q4
    have d0 : w4.cell? ⟨P, 0, none⟩ = _ := cell_of HS4.out.bx 0
    have d1 : w4.cell? ⟨P, 1, none⟩ = _ := cell_of HS4.out.bx 1
    have d2 : w4.cell? ⟨P, 2, none⟩ = _ := cell_of HS4.out.bx 2
    have d3 : w4.cell? ⟨P, 3, none⟩ = _ := cell_of HS4.out.bx 3
    have d4 : w4.cell? ⟨P, 4, none⟩ = _ := cell_of HS4.out.bx 4
    have d5 : w4.cell? ⟨P, 5, none⟩ = _ := cell_of HS4.out.bx 5
    have d6 : w4.cell? ⟨P, 6, none⟩ = _ := cell_of HS4.out.bx 6
    have d7 : w4.cell? ⟨P, 7, none⟩ = _ := cell_of HS4.out.bx 7
    have d8 : w4.cell? ⟨P, 8, none⟩ = _ := cell_of HS4.out.bx 8
    have d9 : w4.cell? ⟨P, 9, none⟩ = _ := cell_of HS4.out.bx 9
    have d10 : w4.cell? ⟨P, 10, none⟩ = _ := cell_of HS4.out.bx 10
    go_wp2_with (first | (refine wpList_store_row rfl 28 _ _ rfl R (opR k 0 0 0 u false 0 0 (.slice none 0 0) 0 0) rfl rfl 28 (opR 0 0 0 0 0 false 0 0 (.slice none 0 0) 0 0) HS4.out.rr (by kernel_rfl) rfl (by simp [Value.oneCell']) ?_) | fail)
    have hrow := setRow_heap _ R _ (opR k 0 0 0 u false 0 0 (.slice none 0 0) 0 0) 28 (0, 0) HS4.out.rr
    have e0 := cell_of hrow 0
    have e1 := cell_of hrow 1
    have e2 := cell_of hrow 2
    have e3 := cell_of hrow 3
    have e4 := cell_of hrow 4
    have e5 := cell_of hrow 5
    have e6 := cell_of hrow 6
    have e7 := cell_of hrow 7
    have e8 := cell_of hrow 8
    have e9 := cell_of hrow 9
    have e10 := cell_of hrow 10
    simp at e0 e1 e2 e3 e4 e5 e6 e7 e8 e9 e10
    refine bodyPost_ret (v := .agg (opR k 0 0 0 u false 0 0 (.slice none 0 0) 0 0)) (by simp [results, Tryz.results33, go_sem, e0, e1, e2, e3, e4, e5, e6, e7, e8, e9, e10]) rfl ?_
    exact ⟨u, false, 0, 0, rfl, HQ.out, below_setRow HS4.out.bel HS4.out.lr _⟩
end Go.Proofs.YtmmaniolaljjlaaGreatDoor
/- An operation that is read, by the program. (mkScp.py) -/
namespace Go.Proofs.YtmmaniolaljjlaaGreatDoor
open Go.RowKit Go.Shelf
set_option linter.unusedVariables false

def zeroO : Opx := ⟨0, 0, 0, 0, 0, false, 0, 0, [], 0, 0⟩
def opV (o : Opx) (kp : Option Addr) (kc : Nat) : Array Value := opR o.k o.key o.val o.old o.hnd o.set o.rt o.ri (.slice kp o.keys.length kc) o.lo o.hi
theorem pq_no {t : List UInt8} (h : ∀ o', rightO o' → t ≠ textO o') : PQ t false zeroO := ⟨fun e => by simp at e, fun o' h1 h2 => absurd h2 (h o' h1)⟩
theorem sl_any (bk off n cap i : Nat) (hi : i ≤ n) (hcap : n ≤ cap) : ∃ off', (∀ w, (Instr.slice 67 (.slice (some ⟨bk, off, none⟩) n cap) (some (.int .i64 (i : Int))) none none).run Tryz.prog w = .ok (.slice (some ⟨bk, off', none⟩) (n - i) (cap - i)) w) ∧ (i < cap → off' = off + i) := by
  by_cases e : cap = i
  · refine ⟨off, fun w => ?_, fun h => by omega⟩
    have hn : n = i := by omega
    have hb := run_sliceBound (P := Tryz.prog) (w := w) .i64 (i : Int) i .sliceB (by omega) (by omega)
    simp [Instr.slice, run_underlying Tryz.underlying67, Instr.sliceBounds, Result.andThen, e, hn, hb]
  · refine ⟨off + i, fun w => ?_, fun _ => rfl⟩
    have hb := run_sliceBound (P := Tryz.prog) (w := w) .i64 (i : Int) n .sliceB (by omega) (by omega)
    simp [Instr.slice, run_underlying Tryz.underlying67, Instr.sliceBounds, Result.andThen, e, hb, Addr.add]
    try (unfold Addr.add; split <;> simp_all)
/-- what lies in memory while an operation is read -/
structure PS (W : World) (R P F : Nat) (row fr : Array Value) (pv : Value) (ns : List Nat) (sb so : Nat) (fs : List (List UInt8)) (wr : World) : Prop where
  rr : wr.heap[R]? = some (.cells (opR 0 0 0 0 0 false 0 0 (.slice none 0 0) 0 0) 28 (0, 0))
  bx : wr.heap[P]? = some (.cells row 28 (0, 0))
  fl : wr.heap[F]? = some (.cells fr 113 (0, 0))
  num : (ns = [] ∧ pv = .slice none 0 0) ∨ ∃ g, pv = .slice (some ⟨g, 0, none⟩) ns.length ns.length ∧ g ≠ P ∧ wr.heap[g]? = some (.cells (ns.map fun n => Value.pointer (some ⟨P, n, none⟩)).toArray 115 (0, 0))
  st : ∀ (i : Nat) (f : List UInt8), fs[i]? = some f → wr.cell? ⟨sb, so + i, none⟩ = some (.string (mkS f))
  sl : sb < wr.heap.size
  bel : Below W.heap.size W wr
  lo : W.heap.size ≤ P
  lr : W.heap.size ≤ R
  nr : R ≠ P
  nf : F ≠ P
  ns : sb ≠ P
theorem PS.chg {W : World} {R P F : Nat} {row row' fr : Array Value} {pv : Value} {ns : List Nat} {sb so : Nat} {fs : List (List UInt8)} {wr X : World} (h : PS W R P F row fr pv ns sb so fs wr) (hc : Chg (fun b => b = P) wr X) (hx : X.heap[P]? = some (.cells row' 28 (0, 0))) : PS W R P F row' fr pv ns sb so fs X := by
  have hk : ∀ (b : Nat) (o : Obj), b ≠ P → wr.heap[b]? = some o → X.heap[b]? = some o := fun b o hne hb => (hc.block b (Array.getElem?_eq_some_iff.1 hb).1 hne).trans hb
  refine ⟨hk R _ h.nr h.rr, hx, hk F _ h.nf h.fl, ?_, fun i f hf => ?_, Nat.lt_of_lt_of_le h.sl hc.size, ⟨hc.os.trans h.bel.os, hc.tape.trans h.bel.tape, hc.output.trans h.bel.output, Nat.le_trans h.bel.size hc.size, fun k hk' => ?_⟩, h.lo, h.lr, h.nr, h.nf, h.ns⟩
  · rcases h.num with x | ⟨g, h1, h2, h3⟩
    · exact .inl x
    · exact .inr ⟨g, h1, h2, hk g _ h2 h3⟩
  · rw [World.cell?_of_block (w := wr) (hc.block sb h.sl h.ns)]
    exact h.st i f hf
  · have := h.lo
    have := h.bel.size
    rw [hc.block k (by omega) (by omega)]
    exact h.bel.block k hk'
theorem PS.on {W : World} {R P F : Nat} {row fr : Array Value} {pv : Value} {ns : List Nat} {sb so : Nat} {fs : List (List UInt8)} {wr X : World} (h : PS W R P F row fr pv ns sb so fs wr) (hb : Below wr.heap.size wr X) : PS W R P F row fr pv ns sb so fs X := h.chg (chg_of_below hb) (heap_below h.bx hb)
theorem PS.cut {W : World} {R P F : Nat} {row fr : Array Value} {pv : Value} {ns : List Nat} {sb so so' : Nat} {f : List UInt8} {fs : List (List UInt8)} {wr : World} (h : PS W R P F row fr pv ns sb so (f :: fs) wr) (e : 0 < fs.length → so' = so + 1) : PS W R P F row fr pv ns sb so' fs wr :=
  ⟨h.rr, h.bx, h.fl, h.num, fun i x hx => by
    have hl : 0 < fs.length := by
      have := (List.getElem?_eq_some_iff.1 hx).1
      omega
    have := h.st (i + 1) x (by simpa using hx)
    rw [e hl, Nat.add_assoc, Nat.add_comm 1 i]
    exact this, h.sl, h.bel, h.lo, h.lr, h.nr, h.nf, h.ns⟩
theorem PS.srd {W : World} {R P F : Nat} {row fr : Array Value} {pv : Value} {ns : List Nat} {sb so : Nat} {fs : List (List UInt8)} {wr : World} (h : PS W R P F row fr pv ns sb so fs wr) : SRd wr (some ⟨sb, so, none⟩) fs := .inr ⟨sb, so, rfl, h.sl, h.st⟩
/-- the end: the row of the answer is written -/
theorem PS.fin {W : World} {R P F : Nat} {row fr : Array Value} {pv : Value} {ns : List Nat} {sb so : Nat} {fs : List (List UInt8)} {wr : World} (h : PS W R P F row fr pv ns sb so fs wr) (cs : Array Value) : (wr.setRow R cs).heap[R]? = some (.cells cs 28 (0, 0)) ∧ Below W.heap.size W (wr.setRow R cs) := ⟨setRow_heap _ _ _ _ _ _ h.rr, below_setRow h.bel h.lr _⟩
end Go.Proofs.YtmmaniolaljjlaaGreatDoor
