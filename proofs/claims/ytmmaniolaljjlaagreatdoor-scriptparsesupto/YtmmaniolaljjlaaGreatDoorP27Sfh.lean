/- The document's Parse of a script's text. (mkSfh.py) -/
import Derived.Test.YtmmaniolaljjlaaGreatDoorP21Sfg
import Derived.Test.YtmmaniolaljjlaaGreatDoorP26Sfd
import Derived.Deep.MidRow
namespace Go.Proofs.YtmmaniolaljjlaaGreatDoor
open Go.RowKit Go.Shelf Go.Maps
set_option linter.unusedVariables false

theorem ln_last {t : List UInt8} {ls : List (List UInt8)} {r : List UInt8} (h : LnT t ls r) (h0 : t ≠ []) : t[t.length - 1]? = some 10 ↔ r = [] := by
  obtain ⟨e, hr, _⟩ := h
  rw [← List.getLast?_eq_getElem?]
  constructor
  · intro hl
    by_cases hn : r = []
    · exact hn
    · exfalso
      rcases List.eq_nil_or_concat r with e2 | ⟨l, a, e2⟩
      · exact hn e2
      · rw [List.concat_eq_append] at e2
        rw [e, e2, ← List.append_assoc, List.getLast?_concat] at hl
        injection hl with hl
        exact absurd hl (hr a (by rw [e2]; simp))
  · rintro rfl
    rcases List.eq_nil_or_concat ls with rfl | ⟨l, a, rfl⟩
    · exact absurd (by simpa [joinL] using e) h0
    · rw [e, List.append_nil, List.concat_eq_append, joinL_snoc, ← List.append_assoc, List.getLast?_concat]
theorem ln_of {t : List UInt8} {f : Nat} {ls : List (List UInt8)} (h : LnR t t.length f ls) : ∃ r, LnT t ls r := by
  obtain ⟨r, e, _, h1, h2⟩ := h
  rw [List.take_length] at e
  exact ⟨r, e, h1, h2⟩
theorem par_line {t : List UInt8} {ls : List (List UInt8)} {r f : List UInt8} {i : Nat} {s : Option Rdg} (h : LnT t ls r) (hf : ls[i]? = some f) (hr : RdAll none (ls.take i) s) (hn : ∀ x, ¬ Goes1 s f x) : PaR t none (i + 1) := by
  have hi := (List.getElem?_eq_some_iff.1 hf).1
  have e : ls = ls.take i ++ f :: ls.drop (i + 1) := by
    rw [← drop_at hf, List.take_append_drop]
  have := PaR.line (ls.take i) f (ls.drop (i + 1)) r s (by rw [← e]; exact h) hr hn
  rwa [List.length_take, Nat.min_eq_left (by omega)] at this
theorem rd_next {ls : List (List UInt8)} {f : List UInt8} {i : Nat} {s : Option Rdg} {x : Rdg} (hf : ls[i]? = some f) (hr : RdAll none (ls.take i) s) (hg : Goes1 s f x) : RdAll none (ls.take (i + 1)) (some x) := by
  rw [List.take_add_one, hf]
  exact hr.snoc hg
theorem joinL_app (a b : List (List UInt8)) : joinL (a ++ b) = joinL a ++ joinL b := by simp [joinL]
theorem ln_take {t : List UInt8} {ls : List (List UInt8)} {r : List UInt8} (h : LnT t ls r) (i : Nat) : (joinL (ls.take i)).length ≤ t.length := by
  rw [h.1]
  have e : joinL ls = joinL (ls.take i) ++ joinL (ls.drop i) := by
    have h9 := joinL_app (ls.take i) (ls.drop i)
    rwa [List.take_append_drop] at h9
  rw [e]
  simp only [List.length_append]
  omega
theorem GS.setC {Z X : World} {P R : Nat} {ce sl : Int} {stp : Nat} {mu : Int} {tb pb : Value} {rr : Array Value} {tv pv : Value} {ts : List (List Opx)} {ps : List Int} {wr : World} (h : GS Z X P R ce sl stp mu tb pb rr tv pv ts ps wr) (ce' sl' : Int) (stp' : Nat) (mu' : Int) : GS Z X P R ce' sl' stp' mu' tb pb rr tv pv ts ps (wr.setCells P 0 [.int .i64 ce', .int .i64 sl', .int .u64 ((stp' : Nat) : Int), .int .i64 mu']) := by
  obtain ⟨a, b, c, d⟩ := h.set 0 (.int .i64 ce')
  have h1 : GS Z X P R ce' sl stp mu tb pb rr tv pv ts ps (wr.setCell ⟨P, 0, none⟩ (.int .i64 ce')) := ⟨a, b, c, d, h.r0, h.lP, h.lR, h.ne, h.sz⟩
  obtain ⟨a, b, c, d⟩ := h1.set 1 (.int .i64 sl')
  have h2 : GS Z X P R ce' sl' stp mu tb pb rr tv pv ts ps ((wr.setCell ⟨P, 0, none⟩ (.int .i64 ce')).setCell ⟨P, 1, none⟩ (.int .i64 sl')) := ⟨a, b, c, d, h.r0, h.lP, h.lR, h.ne, h.sz⟩
  obtain ⟨a, b, c, d⟩ := h2.set 2 (.int .u64 ((stp' : Nat) : Int))
  have h3 : GS Z X P R ce' sl' stp' mu tb pb rr tv pv ts ps (((wr.setCell ⟨P, 0, none⟩ (.int .i64 ce')).setCell ⟨P, 1, none⟩ (.int .i64 sl')).setCell ⟨P, 2, none⟩ (.int .u64 ((stp' : Nat) : Int))) := ⟨a, b, c, d, h.r0, h.lP, h.lR, h.ne, h.sz⟩
  obtain ⟨a, b, c, d⟩ := h3.set 3 (.int .i64 mu')
  exact ⟨a, b, c, d, h.r0, h.lP, h.lR, h.ne, h.sz⟩
theorem GS.rowP {Z X : World} {P R : Nat} {ce sl : Int} {stp : Nat} {mu : Int} {tb pb : Value} {rr : Array Value} {tv pv : Value} {ts : List (List Opx)} {ps : List Int} {wr : World} (h : GS Z X P R ce sl stp mu tb pb rr tv pv ts ps wr) (tb' pb' : Value) : GS Z X P R ce sl stp mu tb' pb' rr tv pv ts ps (wr.setRow P (scR ce sl stp mu tb' pb')) := by
  refine ⟨h.os.keep (KpM.at (P := P) ⟨rfl, rfl, rfl, by simp, fun b hb hn => setRow_other _ _ _ _ hn⟩ h.bx nrow (i0 ⟨ce, rfl⟩)), ⟨h.ch.os, h.ch.tape, h.ch.output, by simpa using h.ch.size, fun i hi hn => ?_⟩, setRow_heap _ _ _ _ _ _ h.bx, (setRow_other _ _ _ _ (Ne.symm h.ne)).trans h.rx, h.r0, h.lP, h.lR, h.ne, h.sz⟩
  have := h.lP
  exact (setRow_other _ _ _ _ (by omega)).trans (h.ch.block i hi hn)
def Kp9 (w3 wr : World) : Prop := ∀ (b : Nat) (cur : Array Value), w3.heap[b]? = some (.cells cur 9 (0, 0)) → wr.heap[b]? = some (.cells cur 9 (0, 0))
theorem Kp9.on {w3 wr X : World} (h : Kp9 w3 wr) (hb : Below wr.heap.size wr X) : Kp9 w3 X := fun b cur h1 => heap_below (h b cur h1) hb
theorem Kp9.ch {Z w3 wr X : World} (h : Kp9 w3 wr) (hc : ChO Z wr X) : Kp9 w3 X := fun b cur h1 => hc.kept (h b cur h1) (fun cs t e ht => by injection e with _ e; subst e; exact absurd ht (by unfold rowTy; decide))
theorem Kp9.at {w3 wr X : World} {P : Nat} {cs : Array Value} (h : Kp9 w3 wr) (hp : wr.heap[P]? = some (.cells cs 46 (0, 0))) (hc : ∀ b, b ≠ P → X.heap[b]? = wr.heap[b]?) : Kp9 w3 X := fun b cur h1 => (hc b (fun e => by
  have h2 := h b cur h1
  rw [e, hp] at h2
  injection h2 with h2
  injection h2 with _ h2
  exact absurd h2 (by decide))).trans (h b cur h1)
/-- while the lines are read -/
structure DI (W w3 : World) (B R : Nat) (ls : List (List UInt8)) (i : Nat) (x : Rdg) (tv pv : Value) (wr : World) : Prop where
  gs : GS W W B R x.ce x.sl x.stp x.mu tv pv (#[.int .i64 0, .int .i64 0, .int .u64 0, .int .i64 0, .slice none 0 0, .slice none 0 0]) tv pv x.ts x.ps wr
  k9 : Kp9 w3 wr
  rd : (i = 0 ∧ x.ts = [] ∧ x.ps = []) ∨ (0 < i ∧ RdAll none (ls.take i) (some x))
def PaV (W' : World) (z : Option Rdg) (row : Array Value) : Prop := match z with
  | none => row = #[.int .i64 0, .int .i64 0, .int .u64 0, .int .i64 0, .slice none 0 0, .slice none 0 0]
  | some x => ∃ tp tc pp pc, row = scR x.ce x.sl x.stp x.mu (.slice tp x.ts.length tc) (.slice pp x.ps.length pc) ∧ TRd W' tp x.ts ∧ IRd W' pp x.ps ∧ x.ps.length ≤ pc
def PsQ (W : World) (t : List UInt8) (e : Ending) (W' : World) : Prop := ∃ z n row E, e = .returned (.tuple #[.agg row, .int .i64 E, .int .i64 ((n : Nat) : Int)]) ∧ PaR t z n ∧ PaV W' z row ∧ E = (if z.isSome = true then 0 else 52) ∧ Below W.heap.size W W'
theorem cfg_go {f : List UInt8} {ce sl : Int} {stp : Nat} {mu : Int} (h : CfQ f true ce sl stp mu) : Goes1 none f ⟨ce, sl, stp, mu, [], []⟩ := by
  obtain ⟨⟨a, b, c, d⟩, e, rfl⟩ := h.1 rfl
  exact .cfg ce sl stp mu a b c d e
theorem cfg_no {f : List UInt8} {ce sl : Int} {stp : Nat} {mu : Int} (h : CfQ f false ce sl stp mu) : ∀ x, ¬ Goes1 none f x := fun x hx => by
  generalize hs : (none : Option Rdg) = s at hx
  cases hx with
  | cfg ce' sl' stp' mu' a b c d e =>
    have := (h.2 ce' sl' stp' mu' a b c d e rfl).1
    cases this
  | thr => cases hs
  | op => cases hs
  | pk => cases hs
set_option maxRecDepth 100000 in
set_option maxHeartbeats 8000000 in
theorem dParse_any (t : List UInt8) (ht : t.length ≤ 5000000) (W : World) (T : Tb W) : Calls Tryz.prog 22 #[.string (mkS t)] W (PsQ W t) := by
  obtain ⟨w1, hw1⟩ : ∃ w1, w1 = W.alloc (.cells #[.int .i64 0, .int .i64 0, .int .u64 0, .int .i64 0, .slice none 0 0, .slice none 0 0] 46) := ⟨_, rfl⟩
  obtain ⟨R, hR⟩ : ∃ R, R = W.heap.size := ⟨_, rfl⟩
  have B1 : Below W.heap.size W w1 := by rw [hw1]; exact below_alloc _ _
  have Y1 : w1.heap[R]? = some (.cells #[.int .i64 0, .int .i64 0, .int .u64 0, .int .i64 0, .slice none 0 0, .slice none 0 0] 46 (0, 0)) := by rw [hw1, hR]; exact heap_alloc_new _ _
  have HLN := keepH (r_lines t (by omega) w1)
  obtain ⟨s, hs⟩ : ∃ s, s = mkS t := ⟨_, rfl⟩
  obtain ⟨Lt, hLt⟩ : ∃ L, L = t.length := ⟨_, rfl⟩
  have hsz : s.size = Lt := by rw [hs, hLt, mkS_size]
  have HIX := keepH (fun n hn => idx_str t n hn 10)
  rw [← hs] at HLN HIX ⊢
  have HS := keepH hs
  have HT := keepH T
  have HTL := keepH ht
  have HLT := keepH hLt
  have HW1 := keepH hw1
  have HR := keepH hR
  have HB1 := keepH B1
  have HY1 := keepH Y1
  have hlt5 : Lt ≤ 5000000 := by omega
  clear hs T ht hw1 hR B1 Y1 hLt
  go_enter Tryz.func22, Tryz.ntmps22
  go_upto_region 1 with fail
  rw [← HW1.out, ← HR.out]
  go_wp2_with fail
  refine HLN.out.mono ?_
  rintro e w2 ⟨wv, rfl, ls, hRW, f9, hLN⟩
  obtain ⟨rr, hln⟩ := ln_of hLN
  have hln2 := ln_len ⟨f9, hLN⟩
  obtain ⟨lp, lc, rfl⟩ := row_form hRW.row
  obtain ⟨N, hN⟩ : ∃ N, N = ls.length := ⟨_, rfl⟩
  have hN5 : N ≤ 5000000 := by have := hln2.1; have := HTL.out; omega
  have hfl : ∀ f ∈ ls, f.length ≤ 5000000 := fun f hf => Nat.le_trans (hln2.2 f hf) HTL.out
  have B2 : Below w1.heap.size w1 w2 := by have h := hRW.chg; exact ⟨h.os, h.tape, h.output, h.size, fun i hi => h.block i hi (fun x => x)⟩
  have hrow := hRW.row
  have hnew := hRW.new
  rw [← hN] at hrow
  rw [← hN]
  obtain ⟨w3, hw3⟩ : ∃ w3, w3 = w2.alloc (.cells #[.int .i64 0, .int .i64 0, .int .u64 0, .int .i64 0, .slice none 0 0, .slice none 0 0] 46) := ⟨_, rfl⟩
  obtain ⟨B, hB⟩ : ∃ B, B = w2.heap.size := ⟨_, rfl⟩
  have B3 : Below w2.heap.size w2 w3 := by rw [hw3]; exact below_alloc _ _
  have BW3 := below_chain (below_chain HB1.out B2) B3
  have hgs : GS W W B R 0 0 0 0 (.slice none 0 0) (.slice none 0 0) (#[.int .i64 0, .int .i64 0, .int .u64 0, .int .i64 0, .slice none 0 0, .slice none 0 0]) (.slice none 0 0) (.slice none 0 0) [] [] w3 := ⟨OS.nil _ _, ChO.of W BW3, by rw [hw3, hB]; exact heap_alloc_new _ _, heap_below (heap_below HY1.out B2) B3, ⟨0, rfl⟩, by rw [hB]; exact Nat.le_trans HB1.out.size B2.size, by rw [HR.out]; exact Nat.le_refl _, by have := (Array.getElem?_eq_some_iff.1 HY1.out).1; have := B2.size; omega, Nat.le_refl _⟩
  have HDI0 : Hid (DI W w3 B R ls 0 ⟨0, 0, 0, 0, [], []⟩ (.slice none 0 0) (.slice none 0 0) w3) := keepH ⟨hgs, fun b cur h => h, .inl ⟨rfl, rfl, rfl⟩⟩
  have HST : Hid (∀ (X : World), Kp9 w3 X → ∀ (i : Nat) (f : List UInt8), ls[i]? = some f → ∃ lb, lp = some ⟨lb, 0, none⟩ ∧ lb < w2.heap.size ∧ w2.heap.size ≤ w3.heap.size ∧ X.cell? ⟨lb, i, none⟩ = some (.string (mkS f)) ∧ ∃ cur, w3.heap[lb]? = some (.cells cur 9 (0, 0))) := keepH (fun X hk i f hf => by
    have hi := (List.getElem?_eq_some_iff.1 hf).1
    rcases hrow.2 with ⟨_, e⟩ | ⟨g, cap, cur, e, _, hh, _⟩
    · omega
    · injection e with e1 e2 e3
      subst e1
      have h3 := hk g cur (heap_below hh B3)
      have hc := World.ownsRow.cellAt hrow i (by omega)
      refine ⟨g, rfl, (Array.getElem?_eq_some_iff.1 hh).1, B3.size, ?_, cur, heap_below hh B3⟩
      rw [cell_of h3 i]
      rw [cell_of hh i] at hc
      rw [hc]
      simp [strsRow, hf])
  have HLT9 := keepH hln
  have HN := keepH hN
  have HFL := keepH hfl
  have HW3 := keepH hw3
  have HB := keepH hB
  have HBW3 := keepH BW3
  clear hRW hLN hln hln2 hN hfl B2 hrow hnew hw3 hB B3 BW3 hgs HLN
  go_upto_region 3 with fail
  rw [← HW3.out, ← HB.out]
  clear HW3 HB
  go_wp2_with fail
  go_loopw [7, 8] (fun s7 s8 wr => ∃ i : Nat, i ≤ N ∧ s7 = .int .i64 (i : Int) ∧ Hid (∃ x tv pv, DI W w3 B R ls i x tv pv wr)) (fun s7 _ _ => N - (intOf s7).toNat)
  case atStart => exact ⟨0, by omega, rfl, keepH ⟨_, _, _, HDI0.out⟩⟩
  case round =>
    obtain ⟨i, hi, rfl, HK⟩ := hrel
    obtain ⟨x, tv, pv, hdi⟩ := HK.out
    have HDI := keepH hdi
    clear hdi HK
    by_cases hlt : i < N
    · have q1 : (i : Int) < (N : Int) := by omega
      have q0 : (0 : Int) ≤ (i : Int) := by omega
      obtain ⟨f, hf⟩ : ∃ f, ls[i]? = some f := ⟨ls[i]'(by have := HN.out; omega), List.getElem?_eq_getElem _⟩
      obtain ⟨lb, rfl, -, -, c0, -⟩ := HST.out wr HDI.out.k9 i f hf
      have hfl5 := HFL.out f (List.mem_of_getElem? hf)
      have HF := keepH hf
      obtain ⟨sf, hsf⟩ : ∃ s, s = mkS f := ⟨_, rfl⟩
      have TW := HT.out.on (HDI.out.gs.ch.bel (Below.refl _ _))
      by_cases h0 : i = 0
      · have q2 : ((i : Int) == 0) = true := by rw [h0]; rfl
        have HI0 : Hid (i = 0) := keepH h0
        have HCF := keepH (dConfigured_any f hfl5 wr TW)
        rw [← hsf] at HCF c0
        clear hf hfl5 hsf h0 TW
        go_wp2_with fail
        refine HCF.out.mono ?_
        rintro e v1 ⟨ce, sl, stp, mu, ok, rfl, hcq, C1⟩
        have HCQ := keepH hcq
        have HG1 := keepH (HDI.out.gs.on C1)
        have HK1 := keepH (HDI.out.k9.on C1)
        obtain ⟨v2, hv2⟩ : ∃ v2, v2 = v1.setCells B 0 [.int .i64 ce, .int .i64 sl, .int .u64 ((stp : Nat) : Int), .int .i64 mu] := ⟨_, rfl⟩
        have HG2 := keepH (HG1.out.setC ce sl stp mu)
        have HK2 : Hid (Kp9 w3 v2) := keepH (HK1.out.at HG1.out.bx (fun b hb => by rw [hv2]; exact (Below.heap_setCell _ _ _ _ hb).trans ((Below.heap_setCell _ _ _ _ hb).trans ((Below.heap_setCell _ _ _ _ hb).trans (Below.heap_setCell _ _ _ _ hb)))))
        rw [← hv2] at HG2
        have HV2 := keepH hv2
        have HTH : Hid (v1.there B 0 4) := keepH (fun j hj => ⟨by rw [cell_of HG1.out.bx]; match j, hj with | 0, _ => rfl | 1, _ => rfl | 2, _ => rfl | 3, _ => rfl, free_of HG1.out.bx _⟩)
        clear hcq C1 hv2 c0
        cases ok
        · have HPL : Hid (PaR t none (i + 1)) := keepH (par_line HLT9.out HF.out (by rw [HI0.out, List.take_zero]; exact .nil none) (cfg_no HCQ.out))
          go_wp2_with (first | (refine wpList_store_mid rfl 42 (.tmp 27) (.tmp 25) rfl B 0 #[.int .i64 ce, .int .i64 sl, .int .u64 ((stp : Nat) : Int), .int .i64 mu] rfl rfl HTH.out (by kernel_rfl) (by kernel_rfl) ?_; rw [show v1.setCells B 0 #[.int .i64 ce, .int .i64 sl, .int .u64 ((stp : Nat) : Int), .int .i64 mu].toList = v2 from HV2.out.symm]) | (refine wpList_store_row rfl 46 _ _ rfl R (#[.int .i64 0, .int .i64 0, .int .u64 0, .int .i64 0, .slice none 0 0, .slice none 0 0]) rfl rfl 46 (#[.int .i64 0, .int .i64 0, .int .u64 0, .int .i64 0, .slice none 0 0, .slice none 0 0]) HG2.out.rx (by kernel_rfl) rfl (by simp [Value.oneCell']) ?_) | go_in)
          have HGF := keepH (HG2.out.row (#[.int .i64 0, .int .i64 0, .int .u64 0, .int .i64 0, .slice none 0 0, .slice none 0 0]) ⟨0, rfl⟩)
          have hrow := HGF.out.rx
          have e0 := cell_of hrow 0
          have e1 := cell_of hrow 1
          have e2 := cell_of hrow 2
          have e3 := cell_of hrow 3
          have e4 := cell_of hrow 4
          have e5 := cell_of hrow 5
          simp at e0 e1 e2 e3 e4 e5
          refine bodyPost_ret (v := .tuple #[.agg (#[.int .i64 0, .int .i64 0, .int .u64 0, .int .i64 0, .slice none 0 0, .slice none 0 0]), .int .i64 52, .int .i64 ((i + 1 : Nat) : Int)]) (by simp [results, Tryz.results22, go_sem, e0, e1, e2, e3, e4, e5]) rfl ?_
          exact ⟨none, i + 1, _, 52, rfl, HPL.out, rfl, rfl, HGF.out.ch.bel (Below.refl _ _)⟩
        · have HGG : Hid (Goes1 none f ⟨ce, sl, stp, mu, [], []⟩) := keepH (cfg_go HCQ.out)
          go_wp2_with (first | (refine wpList_store_mid rfl 42 (.tmp 27) (.tmp 25) rfl B 0 #[.int .i64 ce, .int .i64 sl, .int .u64 ((stp : Nat) : Int), .int .i64 mu] rfl rfl HTH.out (by kernel_rfl) (by kernel_rfl) ?_; rw [show v1.setCells B 0 #[.int .i64 ce, .int .i64 sl, .int .u64 ((stp : Nat) : Int), .int .i64 mu].toList = v2 from HV2.out.symm]) | go_in)
          go_roundw
          case rel => exact ⟨i + 1, by omega, by first | rfl | go_num, keepH ⟨⟨ce, sl, stp, mu, [], []⟩, tv, pv, by
            have hz := HDI.out.rd
            have hts : x.ts = [] ∧ x.ps = [] := by
              rcases hz with ⟨_, a, b⟩ | ⟨a, _⟩
              · exact ⟨a, b⟩
              · have := HI0.out; omega
            have hg := HG2.out
            rw [hts.1, hts.2] at hg
            exact hg, HK2.out, .inr ⟨by omega, rd_next HF.out (by rw [HI0.out, List.take_zero]; exact .nil none) HGG.out⟩⟩⟩
          case measure => simp [intOf]; omega
      · have q2 : ((i : Int) == 0) = false := by simp; omega
        have hrd : RdAll none (ls.take i) (some x) := by
          rcases HDI.out.rd with ⟨a, _⟩ | ⟨_, a⟩
          · exact absurd a h0
          · exact a
        have hms : msr x ≤ 5000000 := by
          have h1 := rd_msr hrd
          have h2 := ln_take HLT9.out i
          have h3 : msS (some x) = msr x := rfl
          have h4 := HTL.out
          simp only [msS] at h1
          omega
        have hsk := sok_of (rd_good0 hrd) (by omega)
        have HGO := keepH (dGoes_any x.ce x.sl x.stp x.mu tv pv x.ts x.ps f hfl5 hsk.tl hsk.pl hsk.ll W wr.drew (HDI.out.gs.ch.size) (TW.on (below_drewN (Below.refl _ _) 1)) (HDI.out.gs.os.on (below_drewN (Below.refl _ _) 1)))
        have HRD := keepH hrd
        rw [← hsf] at HGO c0
        obtain ⟨ce, hce⟩ : ∃ ce, ce = x.ce := ⟨_, rfl⟩
        obtain ⟨sl, hsl⟩ : ∃ sl, sl = x.sl := ⟨_, rfl⟩
        obtain ⟨stp, hstp⟩ : ∃ stp, stp = x.stp := ⟨_, rfl⟩
        obtain ⟨mu, hmu⟩ : ∃ mu, mu = x.mu := ⟨_, rfl⟩
        obtain ⟨ts, hts⟩ : ∃ ts, ts = x.ts := ⟨_, rfl⟩
        obtain ⟨ps, hps⟩ : ∃ ps, ps = x.ps := ⟨_, rfl⟩
        have hx : x = ⟨ce, sl, stp, mu, ts, ps⟩ := by rw [hce, hsl, hstp, hmu, hts, hps]
        rw [hx] at HRD
        rw [← hce, ← hsl, ← hstp, ← hmu, ← hts, ← hps] at HGO
        have HG0 : Hid (GS W W B R ce sl stp mu tv pv (#[.int .i64 0, .int .i64 0, .int .u64 0, .int .i64 0, .slice none 0 0, .slice none 0 0]) tv pv ts ps wr) := keepH (by rw [hce, hsl, hstp, hmu, hts, hps]; exact HDI.out.gs)
        have HK0 := keepH HDI.out.k9
        have HGD : Hid (GS W W B R ce sl stp mu tv pv (#[.int .i64 0, .int .i64 0, .int .u64 0, .int .i64 0, .slice none 0 0, .slice none 0 0]) tv pv ts ps wr.drew) := keepH (HG0.out.on (below_drewN (Below.refl _ _) 1))
        obtain ⟨tq, tn, td, htf⟩ : ∃ a b c, tv = .slice a b c := by obtain ⟨tp, tc, pp, pc, e, _⟩ := HG0.out.os.reads; exact ⟨tp, _, tc, e⟩
        obtain ⟨pq, pn, pd, hpf⟩ : ∃ a b c, pv = .slice a b c := by obtain ⟨tp, tc, pp, pc, _, e, _⟩ := HG0.out.os.reads; exact ⟨pp, _, pc, e⟩
        subst htf hpf
        have HS9 : Hid ((fun w => w.cell? ⟨lb, i, none⟩ = some (.string sf)) wr.drew) := keepH c0
        have HS9f : Hid (∀ X, Kp9 w3 X → X.cell? ⟨lb, i, none⟩ = some (.string sf)) := keepH (fun X hk => by
          obtain ⟨lb', e, _, _, h9, _⟩ := HST.out X hk i f HF.out
          injection e with e
          injection e with e
          rw [e, hsf]
          exact h9)
        clear hf hfl5 hsf h0 TW hrd hms hsk hce hsl hstp hmu hts hps hx HDI
        go_upto_region 9 with fail
        refine wp_region_held_drew (S := fun w => w.cell? ⟨lb, i, none⟩ = some (.string sf)) (by kernel_rfl) (HS9.out) ?_
        intro hHeld
        refine wpAnyH_take (i := 1) (v := ?_) rfl (by kernel_rfl) (by kernel_rfl) (by kernel_rfl) (fun _ _ _ h => h) (Or.inl ⟨by rfl, ?_⟩) hHeld ?_
        rotate_left
        · intro w hSw
          (try dsimp only at hSw)
          go_simp
          try with_reducible rfl
        (try simp only [Act.put]); (try simp only [List.setIfInBounds_toArray]); (try simp only [List.getElem_toArray]); (repeat (first | simp only [List.getElem_cons_succ] | simp only [List.getElem_cons_zero])); (repeat (first | simp only [List.set_cons_succ] | simp only [List.set_cons_zero]))
        refine wpAnyH_take (i := 2) (v := ?_) rfl (by kernel_rfl) (by kernel_rfl) (by kernel_rfl) (fun _ _ _ h => h) (Or.inl ⟨by rfl, ?_⟩) hHeld ?_
        rotate_left
        · intro w hSw
          (try dsimp only at hSw)
          go_simp
          try with_reducible rfl
        (try simp only [Act.put]); (try simp only [List.setIfInBounds_toArray]); (try simp only [List.getElem_toArray]); (repeat (first | simp only [List.getElem_cons_succ] | simp only [List.getElem_cons_zero])); (repeat (first | simp only [List.set_cons_succ] | simp only [List.set_cons_zero]))
        refine wpAnyH_take (i := 3) (v := ?_) rfl (by kernel_rfl) (by kernel_rfl) (by kernel_rfl) (fun _ _ _ h => h) (Or.inl ⟨by rfl, ?_⟩) hHeld ?_
        rotate_left
        · intro w hSw
          (try dsimp only at hSw)
          go_simp
          try with_reducible rfl
        (try simp only [Act.put]); (try simp only [List.setIfInBounds_toArray]); (try simp only [List.getElem_toArray]); (repeat (first | simp only [List.getElem_cons_succ] | simp only [List.getElem_cons_zero])); (repeat (first | simp only [List.set_cons_succ] | simp only [List.set_cons_zero]))
        refine wpAnyH_take (i := 4) (v := ?_) rfl (by kernel_rfl) (by kernel_rfl) (by kernel_rfl) (fun _ _ _ h => h) (Or.inl ⟨by rfl, ?_⟩) hHeld ?_
        rotate_left
        · intro w hSw
          (try dsimp only at hSw)
          go_simp
          try with_reducible rfl
        (try simp only [Act.put]); (try simp only [List.setIfInBounds_toArray]); (try simp only [List.getElem_toArray]); (repeat (first | simp only [List.getElem_cons_succ] | simp only [List.getElem_cons_zero])); (repeat (first | simp only [List.set_cons_succ] | simp only [List.set_cons_zero]))
        refine wpAnyH_ready (rs := [0]) (by kernel_rfl) (by simp) ?_
        refine AllReadyH.cons rfl (fun KK hKK => ?_) AllReadyH.nil
        have z0 := cell_of HGD.out.bx 0
        have z1 := cell_of HGD.out.bx 1
        have z2 := cell_of HGD.out.bx 2
        have z3 := cell_of HGD.out.bx 3
        have z4 := cell_of HGD.out.bx 4
        have z5 := cell_of HGD.out.bx 5
        go_simp
        refine hKK.out _ _ ?_ (fun hHeld => ?_)
        · exact HS9.out
        clear hKK KK
        (try simp only [Act.put]); (try simp only [List.setIfInBounds_toArray]); (try simp only [List.getElem_toArray]); (repeat (first | simp only [List.getElem_cons_succ] | simp only [List.getElem_cons_zero])); (repeat (first | simp only [List.set_cons_succ] | simp only [List.set_cons_zero]))
        clear z0 z1 z2 z3 z4 z5
        refine wpAnyH_ready (rs := [5]) (by kernel_rfl) (by simp) ?_
        refine AllReadyH.cons rfl (fun KK hKK => ?_) AllReadyH.nil
        go_simp
        refine HGO.out.mono ?_
        rintro e w5 ⟨tv', pv', ts', ps', ok, rfl, ho5, hc5, hgb⟩
        have HGB := keepH hgb
        have HG5 := keepH (HGD.out.put ho5 hc5)
        have HK5 := keepH ((HK0.out.on (below_drewN (Below.refl _ _) 1)).ch hc5)
        obtain ⟨t1, t2, t3, htf⟩ : ∃ a b c, tv' = .slice a b c := by obtain ⟨tp, tc, pp, pc, e, _⟩ := ho5.reads; exact ⟨tp, _, tc, e⟩
        obtain ⟨p1, p2, p3, hpf⟩ : ∃ a b c, pv' = .slice a b c := by obtain ⟨tp, tc, pp, pc, _, e, _⟩ := ho5.reads; exact ⟨pp, _, pc, e⟩
        subst htf hpf
        clear ho5 hc5 hgb
        refine hKK.out _ _ ?_ (fun hHeld => ?_)
        · exact HS9f.out _ HK5.out
        clear hKK KK
        (try simp only [Act.put]); (try simp only [List.setIfInBounds_toArray]); (try simp only [List.getElem_toArray]); (repeat (first | simp only [List.getElem_cons_succ] | simp only [List.getElem_cons_zero])); (repeat (first | simp only [List.set_cons_succ] | simp only [List.set_cons_zero]))
        refine wpAnyH_take (i := 6) (v := ?_) rfl (by kernel_rfl) (by kernel_rfl) (by kernel_rfl) (fun _ _ _ h => h) (Or.inl ⟨by rfl, ?_⟩) hHeld ?_
        rotate_left
        · intro w hSw
          (try dsimp only at hSw)
          go_simp
          try with_reducible rfl
        (try simp only [Act.put]); (try simp only [List.setIfInBounds_toArray]); (try simp only [List.getElem_toArray]); (repeat (first | simp only [List.getElem_cons_succ] | simp only [List.getElem_cons_zero])); (repeat (first | simp only [List.set_cons_succ] | simp only [List.set_cons_zero]))
        refine wpAnyH_take (i := 7) (v := ?_) rfl (by kernel_rfl) (by kernel_rfl) (by kernel_rfl) (fun _ _ _ h => h) (Or.inl ⟨by rfl, ?_⟩) hHeld ?_
        rotate_left
        · intro w hSw
          (try dsimp only at hSw)
          go_simp
          try with_reducible rfl
        (try simp only [Act.put]); (try simp only [List.setIfInBounds_toArray]); (try simp only [List.getElem_toArray]); (repeat (first | simp only [List.getElem_cons_succ] | simp only [List.getElem_cons_zero])); (repeat (first | simp only [List.set_cons_succ] | simp only [List.set_cons_zero]))
        refine wpAnyH_take (i := 8) (v := ?_) rfl (by kernel_rfl) (by kernel_rfl) (by kernel_rfl) (fun _ _ _ h => h) (Or.inl ⟨by rfl, ?_⟩) hHeld ?_
        rotate_left
        · intro w hSw
          (try dsimp only at hSw)
          go_simp
          try with_reducible rfl
        (try simp only [Act.put]); (try simp only [List.setIfInBounds_toArray]); (try simp only [List.getElem_toArray]); (repeat (first | simp only [List.getElem_cons_succ] | simp only [List.getElem_cons_zero])); (repeat (first | simp only [List.set_cons_succ] | simp only [List.set_cons_zero]))
        refine wpAnyH_ready (rs := [9]) (by kernel_rfl) (by simp) ?_
        refine AllReadyH.cons rfl (fun KK hKK => ?_) AllReadyH.nil
        refine step_store_row rfl 46 (.tmp 6) (.tmp 35) rfl B (scR ce sl stp mu (.slice t1 t2 t3) (.slice p1 p2 p3)) rfl rfl 46 (scR ce sl stp mu (.slice tq tn td) (.slice pq pn pd)) HG5.out.bx (by kernel_rfl) rfl (by simp [Value.oneCell']) ?_
        have HG8 := keepH (HG5.out.rowP (.slice t1 t2 t3) (.slice p1 p2 p3))
        have HK8 : Hid (Kp9 w3 (w5.setRow B (scR ce sl stp mu (.slice t1 t2 t3) (.slice p1 p2 p3)))) := keepH (HK5.out.at HG5.out.bx (fun b hb => setRow_other _ _ _ _ hb))
        refine hKK.out _ _ ?_ (fun hHeld => ?_)
        · exact HS9f.out _ HK8.out
        clear hKK KK
        (try simp only [Act.put]); (try simp only [List.setIfInBounds_toArray]); (try simp only [List.getElem_toArray]); (repeat (first | simp only [List.getElem_cons_succ] | simp only [List.getElem_cons_zero])); (repeat (first | simp only [List.set_cons_succ] | simp only [List.set_cons_zero]))
        refine wpAnyH_take (i := 10) (v := ?_) rfl (by kernel_rfl) (by kernel_rfl) (by kernel_rfl) (fun _ _ _ h => h) (Or.inl ⟨by rfl, ?_⟩) hHeld ?_
        rotate_left
        · intro w hSw
          (try dsimp only at hSw)
          go_simp
          try with_reducible rfl
        (try simp only [Act.put]); (try simp only [List.setIfInBounds_toArray]); (try simp only [List.getElem_toArray]); (repeat (first | simp only [List.getElem_cons_succ] | simp only [List.getElem_cons_zero])); (repeat (first | simp only [List.set_cons_succ] | simp only [List.set_cons_zero]))
        refine wpAnyH_done (by kernel_rfl) ?_ _
        go_simp
        clear hHeld
        cases ok
        · have HPL : Hid (PaR t none (i + 1)) := keepH (par_line HLT9.out HF.out HRD.out (HGB.out.2 rfl))
          go_wp2_with (first | (refine wpList_store_row rfl 46 _ _ rfl R (#[.int .i64 0, .int .i64 0, .int .u64 0, .int .i64 0, .slice none 0 0, .slice none 0 0]) rfl rfl 46 (#[.int .i64 0, .int .i64 0, .int .u64 0, .int .i64 0, .slice none 0 0, .slice none 0 0]) HG8.out.rx (by kernel_rfl) rfl (by simp [Value.oneCell']) ?_) | go_in)
          have HGF := keepH (HG8.out.row (#[.int .i64 0, .int .i64 0, .int .u64 0, .int .i64 0, .slice none 0 0, .slice none 0 0]) ⟨0, rfl⟩)
          have hrow := HGF.out.rx
          have e0 := cell_of hrow 0
          have e1 := cell_of hrow 1
          have e2 := cell_of hrow 2
          have e3 := cell_of hrow 3
          have e4 := cell_of hrow 4
          have e5 := cell_of hrow 5
          simp at e0 e1 e2 e3 e4 e5
          refine bodyPost_ret (v := .tuple #[.agg (#[.int .i64 0, .int .i64 0, .int .u64 0, .int .i64 0, .slice none 0 0, .slice none 0 0]), .int .i64 52, .int .i64 ((i + 1 : Nat) : Int)]) (by simp [results, Tryz.results22, go_sem, e0, e1, e2, e3, e4, e5]) rfl ?_
          exact ⟨none, i + 1, _, 52, rfl, HPL.out, rfl, rfl, HGF.out.ch.bel (Below.refl _ _)⟩
        · go_wp2_with fail
          go_roundw
          case rel => exact ⟨i + 1, by omega, by first | rfl | go_num, keepH ⟨⟨ce, sl, stp, mu, ts', ps'⟩, .slice t1 t2 t3, .slice p1 p2 p3, HG8.out, HK8.out, .inr ⟨by omega, rd_next HF.out HRD.out (HGB.out.1 rfl)⟩⟩⟩
          case measure => simp [intOf]; omega
    · obtain rfl : i = N := by omega
      have q1 : ¬ (i : Int) < (i : Int) := by omega
      have HPW := keepH (HDI.out.gs.ch.bel (Below.refl _ _))
      have HG9 := keepH HDI.out.gs
      by_cases hL0 : Lt = 0
      · have z1 : ((s.size : Int) == 0) = true := by rw [hsz, hL0]; rfl
        have z2 : ((Lt : Int) == 0) = true := by rw [hL0]; rfl
        have HPL : Hid (PaR t none (i + 1)) := keepH (by
          have ht0 : t = [] := List.eq_nil_of_length_eq_zero (by have := HLT.out; omega)
          have hls : ls = [] := by
            rcases List.eq_nil_or_concat ls with e | ⟨l, a, e⟩
            · exact e
            · have := HLT9.out.1
              rw [ht0, e, List.concat_eq_append, joinL_snoc] at this
              simp at this
          have := PaR.rest ls rr none HLT9.out (.inr hls) (by rw [hls]; exact .nil none)
          rw [← HN.out] at this
          exact this)
        clear hL0
        go_wp2_with (first | (refine wpList_store_row rfl 46 _ _ rfl R (#[.int .i64 0, .int .i64 0, .int .u64 0, .int .i64 0, .slice none 0 0, .slice none 0 0]) rfl rfl 46 (#[.int .i64 0, .int .i64 0, .int .u64 0, .int .i64 0, .slice none 0 0, .slice none 0 0]) HG9.out.rx (by kernel_rfl) rfl (by simp [Value.oneCell']) ?_) | go_in)
        have HGF := keepH (HG9.out.row (#[.int .i64 0, .int .i64 0, .int .u64 0, .int .i64 0, .slice none 0 0, .slice none 0 0]) ⟨0, rfl⟩)
        have hrow := HGF.out.rx
        have e0 := cell_of hrow 0
        have e1 := cell_of hrow 1
        have e2 := cell_of hrow 2
        have e3 := cell_of hrow 3
        have e4 := cell_of hrow 4
        have e5 := cell_of hrow 5
        simp at e0 e1 e2 e3 e4 e5
        refine bodyPost_ret (v := .tuple #[.agg (#[.int .i64 0, .int .i64 0, .int .u64 0, .int .i64 0, .slice none 0 0, .slice none 0 0]), .int .i64 52, .int .i64 ((i + 1 : Nat) : Int)]) (by simp [results, Tryz.results22, go_sem, e0, e1, e2, e3, e4, e5]) rfl ?_
        exact ⟨none, i + 1, _, 52, rfl, HPL.out, rfl, rfl, HGF.out.ch.bel (Below.refl _ _)⟩
      · have z1 : ((s.size : Int) == 0) = false := by rw [hsz]; simp; omega
        have z2 : ((Lt : Int) == 0) = false := by simp; omega
        obtain ⟨m, hm⟩ : ∃ m, m = Lt - 1 := ⟨_, rfl⟩
        have y1 : (s.size : Int) - 1 = (m : Int) := by rw [hsz]; omega
        have y2 : (Lt : Int) - 1 = (m : Int) := by omega
        obtain ⟨xb, hxb, hxi⟩ := HIX.out m (by have := HLT.out; omega)
        have hne : t ≠ [] := fun e => by have := HLT.out; rw [e] at this; simp at this; omega
        have hlast := ln_last HLT9.out hne
        have hmm : t.length - 1 = m := by have := HLT.out; omega
        rw [hmm] at hlast
        have h10 : xb = 10 ↔ rr = [] := by rw [← hlast]; exact hxi
        clear hlast hmm hxi hne
        by_cases hx10 : xb = 10
        · have z3 : ((xb : Int) != 10) = false := by rw [hx10]; rfl
          have hrr := h10.1 hx10
          subst hrr
          have hrd : RdAll none ls (some x) := by
            rcases HDI.out.rd with ⟨a, _⟩ | ⟨_, a⟩
            · exfalso
              have h1 := HLT9.out.1
              have h2 : ls = [] := List.eq_nil_of_length_eq_zero (by have := HN.out; omega)
              rw [h2] at h1
              have h3 := HLT.out
              rw [h1] at h3
              simp [joinL] at h3
              omega
            · rwa [HN.out, List.take_length] at a
          have hg := rd_good0 hrd
          have hms : msr x ≤ 5000000 := by
            have h1 := rd_msr hrd
            have h2 := ln_take HLT9.out ls.length
            rw [List.take_length] at h2
            have h4 := HTL.out
            simp only [msS] at h1
            omega
          have hsk := sok_of hg (by omega)
          obtain ⟨tp, tc, pp, pc, rfl, rfl, hTR, hIR, hpc⟩ := HG9.out.os.reads
          have HRT := keepH (dRight_any x.ce x.sl x.stp x.mu tp tc pp pc x.ts x.ps hsk wr hTR)
          rw [rt_of hg] at HRT
          have HRD := keepH hrd
          have HTRI := keepH (And.intro hTR (And.intro hIR hpc))
          obtain ⟨ce, hce⟩ : ∃ v, v = x.ce := ⟨_, rfl⟩
          obtain ⟨sl, hsl⟩ : ∃ v, v = x.sl := ⟨_, rfl⟩
          obtain ⟨stp, hstp⟩ : ∃ v, v = x.stp := ⟨_, rfl⟩
          obtain ⟨mu, hmu⟩ : ∃ v, v = x.mu := ⟨_, rfl⟩
          obtain ⟨tn, htn⟩ : ∃ v, v = x.ts.length := ⟨_, rfl⟩
          obtain ⟨pn, hpn⟩ : ∃ v, v = x.ps.length := ⟨_, rfl⟩
          rw [← hce, ← hsl, ← hstp, ← hmu, ← htn, ← hpn] at HRT
          have HGX := HG9
          rw [← hce, ← hsl, ← hstp, ← hmu, ← htn, ← hpn] at HGX
          have HRX : Hid (scR ce sl stp mu (.slice tp tn tc) (.slice pp pn pc) = scR x.ce x.sl x.stp x.mu (.slice tp x.ts.length tc) (.slice pp x.ps.length pc)) := keepH (by rw [hce, hsl, hstp, hmu, htn, hpn])
          have HLE := HTRI
          by_cases hlg : longT x.ts x.ps
          · have HPL : Hid (PaR t none (i + 1)) := keepH (by rw [HN.out]; exact PaR.long ls x HLT9.out HRD.out hlg)
            rw [if_pos hlg] at HRT
            clear hlg hrd hg hms hsk hTR hIR hpc hce hsl hstp hmu htn hpn hx10 h10 hm
            have b0 : wr.cell? ⟨B, 0, none⟩ = _ := cell_of HGX.out.bx 0
            have b1 : wr.cell? ⟨B, 1, none⟩ = _ := cell_of HGX.out.bx 1
            have b2 : wr.cell? ⟨B, 2, none⟩ = _ := cell_of HGX.out.bx 2
            have b3 : wr.cell? ⟨B, 3, none⟩ = _ := cell_of HGX.out.bx 3
            have b4 : wr.cell? ⟨B, 4, none⟩ = _ := cell_of HGX.out.bx 4
            have b5 : wr.cell? ⟨B, 5, none⟩ = _ := cell_of HGX.out.bx 5
            go_wp2_with fail
            refine HRT.out.mono ?_
            rintro e v1 ⟨rfl, C1⟩
            have HGY := keepH (HGX.out.on C1)
            clear C1 b0 b1 b2 b3 b4 b5
            go_wp2_with (first | (refine wpList_store_row rfl 46 _ _ rfl R (#[.int .i64 0, .int .i64 0, .int .u64 0, .int .i64 0, .slice none 0 0, .slice none 0 0]) rfl rfl 46 (#[.int .i64 0, .int .i64 0, .int .u64 0, .int .i64 0, .slice none 0 0, .slice none 0 0]) HGY.out.rx (by kernel_rfl) rfl (by simp [Value.oneCell']) ?_) | go_in)
            have HGF := keepH (HGY.out.row (#[.int .i64 0, .int .i64 0, .int .u64 0, .int .i64 0, .slice none 0 0, .slice none 0 0]) ⟨0, rfl⟩)
            have hrow := HGF.out.rx
            have e0 := cell_of hrow 0
            have e1 := cell_of hrow 1
            have e2 := cell_of hrow 2
            have e3 := cell_of hrow 3
            have e4 := cell_of hrow 4
            have e5 := cell_of hrow 5
            simp at e0 e1 e2 e3 e4 e5
            refine bodyPost_ret (v := .tuple #[.agg (#[.int .i64 0, .int .i64 0, .int .u64 0, .int .i64 0, .slice none 0 0, .slice none 0 0]), .int .i64 52, .int .i64 ((i + 1 : Nat) : Int)]) (by simp [results, Tryz.results22, go_sem, e0, e1, e2, e3, e4, e5]) rfl ?_
            exact ⟨none, i + 1, _, 52, rfl, HPL.out, rfl, rfl, HGF.out.ch.bel (Below.refl _ _)⟩
          · have HPL : Hid (PaR t (some x) 0) := keepH (PaR.ok ls x HLT9.out HRD.out hlg)
            rw [if_neg hlg] at HRT
            clear hlg hrd hg hms hsk hTR hIR hpc hce hsl hstp hmu htn hpn hx10 h10 hm
            have b0 : wr.cell? ⟨B, 0, none⟩ = _ := cell_of HGX.out.bx 0
            have b1 : wr.cell? ⟨B, 1, none⟩ = _ := cell_of HGX.out.bx 1
            have b2 : wr.cell? ⟨B, 2, none⟩ = _ := cell_of HGX.out.bx 2
            have b3 : wr.cell? ⟨B, 3, none⟩ = _ := cell_of HGX.out.bx 3
            have b4 : wr.cell? ⟨B, 4, none⟩ = _ := cell_of HGX.out.bx 4
            have b5 : wr.cell? ⟨B, 5, none⟩ = _ := cell_of HGX.out.bx 5
            go_wp2_with fail
            refine HRT.out.mono ?_
            rintro e v1 ⟨rfl, C1⟩
            have HGY := keepH (HGX.out.on C1)
            have HC1 := keepH C1
            clear C1 b0 b1 b2 b3 b4 b5
            have b0 : v1.cell? ⟨B, 0, none⟩ = _ := cell_of HGY.out.bx 0
            have b1 : v1.cell? ⟨B, 1, none⟩ = _ := cell_of HGY.out.bx 1
            have b2 : v1.cell? ⟨B, 2, none⟩ = _ := cell_of HGY.out.bx 2
            have b3 : v1.cell? ⟨B, 3, none⟩ = _ := cell_of HGY.out.bx 3
            have b4 : v1.cell? ⟨B, 4, none⟩ = _ := cell_of HGY.out.bx 4
            have b5 : v1.cell? ⟨B, 5, none⟩ = _ := cell_of HGY.out.bx 5
            go_wp2_with (first | (refine wpList_store_row rfl 46 _ _ rfl R (scR ce sl stp mu (.slice tp tn tc) (.slice pp pn pc)) rfl rfl 46 (#[.int .i64 0, .int .i64 0, .int .u64 0, .int .i64 0, .slice none 0 0, .slice none 0 0]) HGY.out.rx (by kernel_rfl) rfl (by simp [Value.oneCell']) ?_) | go_in)
            have HGF := keepH (HGY.out.row (scR ce sl stp mu (.slice tp tn tc) (.slice pp pn pc)) ⟨ce, rfl⟩)
            have hrow := HGF.out.rx
            have e0 := cell_of hrow 0
            have e1 := cell_of hrow 1
            have e2 := cell_of hrow 2
            have e3 := cell_of hrow 3
            have e4 := cell_of hrow 4
            have e5 := cell_of hrow 5
            simp at e0 e1 e2 e3 e4 e5
            refine bodyPost_ret (v := .tuple #[.agg (scR ce sl stp mu (.slice tp tn tc) (.slice pp pn pc)), .int .i64 0, .int .i64 ((0 : Nat) : Int)]) (by simp [results, Tryz.results22, go_sem, e0, e1, e2, e3, e4, e5]) rfl ?_
            refine ⟨some x, 0, _, 0, rfl, HPL.out, ⟨tp, tc, pp, pc, HRX.out, ?_, ?_, HTRI.out.2.2⟩, rfl, HGF.out.ch.bel (Below.refl _ _)⟩
            · obtain ⟨tp', tc', pp', pc', e1, e2, h1, h2, h3⟩ := HGF.out.os.reads
              injection e1 with e1
              rw [← e1] at h1
              exact h1
            · obtain ⟨tp', tc', pp', pc', e1, e2, h1, h2, h3⟩ := HGF.out.os.reads
              injection e2 with e2
              rw [← e2] at h2
              exact h2
        · have z3 : ((xb : Int) != 10) = true := by simp; omega
          have HPL : Hid (PaR t none (i + 1)) := keepH (by
            have hrn : rr ≠ [] := fun e => hx10 (h10.2 e)
            rw [HN.out]
            rcases HDI.out.rd with ⟨a, b, c⟩ | ⟨_, a⟩
            · have h2 : ls = [] := List.eq_nil_of_length_eq_zero (by have := HN.out; omega)
              exact PaR.rest ls rr none HLT9.out (.inl hrn) (by rw [h2]; exact .nil none)
            · exact PaR.rest ls rr (some x) HLT9.out (.inl hrn) (by rwa [HN.out, List.take_length] at a))
          clear hx10 h10 hm
          go_wp2_with (first | (refine wpList_store_row rfl 46 _ _ rfl R (#[.int .i64 0, .int .i64 0, .int .u64 0, .int .i64 0, .slice none 0 0, .slice none 0 0]) rfl rfl 46 (#[.int .i64 0, .int .i64 0, .int .u64 0, .int .i64 0, .slice none 0 0, .slice none 0 0]) HG9.out.rx (by kernel_rfl) rfl (by simp [Value.oneCell']) ?_) | go_in)
          have HGF := keepH (HG9.out.row (#[.int .i64 0, .int .i64 0, .int .u64 0, .int .i64 0, .slice none 0 0, .slice none 0 0]) ⟨0, rfl⟩)
          have hrow := HGF.out.rx
          have e0 := cell_of hrow 0
          have e1 := cell_of hrow 1
          have e2 := cell_of hrow 2
          have e3 := cell_of hrow 3
          have e4 := cell_of hrow 4
          have e5 := cell_of hrow 5
          simp at e0 e1 e2 e3 e4 e5
          refine bodyPost_ret (v := .tuple #[.agg (#[.int .i64 0, .int .i64 0, .int .u64 0, .int .i64 0, .slice none 0 0, .slice none 0 0]), .int .i64 52, .int .i64 ((i + 1 : Nat) : Int)]) (by simp [results, Tryz.results22, go_sem, e0, e1, e2, e3, e4, e5]) rfl ?_
          exact ⟨none, i + 1, _, 52, rfl, HPL.out, rfl, rfl, HGF.out.ch.bel (Below.refl _ _)⟩
end Go.Proofs.YtmmaniolaljjlaaGreatDoor
