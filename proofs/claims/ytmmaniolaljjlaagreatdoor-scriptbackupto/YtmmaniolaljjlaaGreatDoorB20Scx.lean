/- The config of a first line, by the document. (mkSfd.py) -/
import Derived.Test.YtmmaniolaljjlaaGreatDoorB15Sfg
import Derived.Deep.CutRange
import Derived.Deep.CutBlock
import Derived.Deep.RegionHeld
import Derived.Deep.MidRow
import Derived.Test.YtmmaniolaljjlaaGreatDoorB19Sfm
import Derived.Test.YtmmaniolaljjlaaGreatDoorB8Sco
namespace Go.Proofs.YtmmaniolaljjlaaGreatDoor
open Go.RowKit Go.Shelf
set_option linter.unusedVariables false

structure RC (W w2 : World) (D R : Nat) (row : Array Value) (wr : World) : Prop where
  bx : wr.heap[D]? = some (.cells row 42 (0, 0))
  rr : wr.heap[R]? = some (.cells #[.int .i64 0, .int .i64 0, .int .u64 0, .int .i64 0] 42 (0, 0))
  bel : Below W.heap.size W wr
  b2 : Below w2.heap.size w2 wr
  lD : w2.heap.size ≤ D
  lW : W.heap.size ≤ w2.heap.size
  lR : W.heap.size ≤ R
  ne : R ≠ D
theorem RC.on {W w2 : World} {D R : Nat} {row : Array Value} {wr X : World} (h : RC W w2 D R row wr) (hb : Below wr.heap.size wr X) : RC W w2 D R row X := ⟨heap_below h.bx hb, heap_below h.rr hb, below_chain h.bel hb, below_chain h.b2 hb, h.lD, h.lW, h.lR, h.ne⟩
theorem RC.row {W w2 : World} {D R : Nat} {row : Array Value} {wr : World} (h : RC W w2 D R row wr) (cs : Array Value) : (wr.setRow R cs).heap[D]? = some (.cells row 42 (0, 0)) ∧ (wr.setRow R cs).heap[R]? = some (.cells cs 42 (0, 0)) ∧ Below W.heap.size W (wr.setRow R cs) := ⟨(setRow_other _ _ _ _ (Ne.symm h.ne)).trans h.bx, setRow_heap _ _ _ _ _ _ h.rr, below_setRow h.bel h.lR _⟩
theorem RC.set {W w2 : World} {D R : Nat} {row : Array Value} {wr : World} (h : RC W w2 D R row wr) (i : Nat) (v : Value) : RC W w2 D R (row.setIfInBounds i v) (wr.setCell ⟨D, i, none⟩ v) := ⟨set_of h.bx i v, other_of h.rr h.ne v, h.bel.setCell (Nat.le_trans h.lW h.lD) _, h.b2.setCell h.lD _, h.lD, h.lW, h.lR, h.ne⟩
end Go.Proofs.YtmmaniolaljjlaaGreatDoor
/- The document's Parse of a script's text. (mkSfh.py) -/
namespace Go.Proofs.YtmmaniolaljjlaaGreatDoor
open Go.RowKit Go.Shelf Go.Maps
set_option linter.unusedVariables false

theorem par_line {t : List UInt8} {ls : List (List UInt8)} {r f : List UInt8} {i : Nat} {s : Option Rdg} (h : LnT t ls r) (hf : ls[i]? = some f) (hr : RdAll none (ls.take i) s) (hn : ∀ x, ¬ Goes1 s f x) : PaR t none (i + 1) := by
  have hi := (List.getElem?_eq_some_iff.1 hf).1
  have e : ls = ls.take i ++ f :: ls.drop (i + 1) := by
    rw [← drop_at hf, List.take_append_drop]
  have := PaR.line (ls.take i) f (ls.drop (i + 1)) r s (by rw [← e]; exact h) hr hn
  rwa [List.length_take, Nat.min_eq_left (by omega)] at this
theorem rd_next {ls : List (List UInt8)} {f : List UInt8} {i : Nat} {s : Option Rdg} {x : Rdg} (hf : ls[i]? = some f) (hr : RdAll none (ls.take i) s) (hg : Goes1 s f x) : RdAll none (ls.take (i + 1)) (some x) := by
  rw [List.take_add_one, hf]
  exact hr.snoc hg
theorem joinL_app (a b : List (List UInt8)) : joinL (a ++ b) = joinL a ++ joinL b := by simp [joinL]
theorem ln_take {t : List UInt8} {ls : List (List UInt8)} {r : List UInt8} (h : LnT t ls r) (i : Nat) : (joinL (ls.take i)).length ≤ t.length := by
  rw [h.1]
  have e : joinL ls = joinL (ls.take i) ++ joinL (ls.drop i) := by
    have h9 := joinL_app (ls.take i) (ls.drop i)
    rwa [List.take_append_drop] at h9
  rw [e]
  simp only [List.length_append]
  omega
theorem GS.setC {Z X : World} {P R : Nat} {ce sl : Int} {stp : Nat} {mu : Int} {tb pb : Value} {rr : Array Value} {tv pv : Value} {ts : List (List Opx)} {ps : List Int} {wr : World} (h : GS Z X P R ce sl stp mu tb pb rr tv pv ts ps wr) (ce' sl' : Int) (stp' : Nat) (mu' : Int) : GS Z X P R ce' sl' stp' mu' tb pb rr tv pv ts ps (wr.setCells P 0 [.int .i64 ce', .int .i64 sl', .int .u64 ((stp' : Nat) : Int), .int .i64 mu']) := by
  obtain ⟨a, b, c, d⟩ := h.set 0 (.int .i64 ce')
  have h1 : GS Z X P R ce' sl stp mu tb pb rr tv pv ts ps (wr.setCell ⟨P, 0, none⟩ (.int .i64 ce')) := ⟨a, b, c, d, h.r0, h.lP, h.lR, h.ne, h.sz⟩
  obtain ⟨a, b, c, d⟩ := h1.set 1 (.int .i64 sl')
  have h2 : GS Z X P R ce' sl' stp mu tb pb rr tv pv ts ps ((wr.setCell ⟨P, 0, none⟩ (.int .i64 ce')).setCell ⟨P, 1, none⟩ (.int .i64 sl')) := ⟨a, b, c, d, h.r0, h.lP, h.lR, h.ne, h.sz⟩
  obtain ⟨a, b, c, d⟩ := h2.set 2 (.int .u64 ((stp' : Nat) : Int))
  have h3 : GS Z X P R ce' sl' stp' mu tb pb rr tv pv ts ps (((wr.setCell ⟨P, 0, none⟩ (.int .i64 ce')).setCell ⟨P, 1, none⟩ (.int .i64 sl')).setCell ⟨P, 2, none⟩ (.int .u64 ((stp' : Nat) : Int))) := ⟨a, b, c, d, h.r0, h.lP, h.lR, h.ne, h.sz⟩
  obtain ⟨a, b, c, d⟩ := h3.set 3 (.int .i64 mu')
  exact ⟨a, b, c, d, h.r0, h.lP, h.lR, h.ne, h.sz⟩
def Kp9 (w3 wr : World) : Prop := ∀ (b : Nat) (cur : Array Value), w3.heap[b]? = some (.cells cur 9 (0, 0)) → wr.heap[b]? = some (.cells cur 9 (0, 0))
theorem Kp9.on {w3 wr X : World} (h : Kp9 w3 wr) (hb : Below wr.heap.size wr X) : Kp9 w3 X := fun b cur h1 => heap_below (h b cur h1) hb
theorem Kp9.ch {Z w3 wr X : World} (h : Kp9 w3 wr) (hc : ChO Z wr X) : Kp9 w3 X := fun b cur h1 => hc.kept (h b cur h1) (fun cs t e ht => by injection e with _ e; subst e; exact absurd ht (by unfold rowTy; decide))
theorem Kp9.at {w3 wr X : World} {P : Nat} {cs : Array Value} (h : Kp9 w3 wr) (hp : wr.heap[P]? = some (.cells cs 46 (0, 0))) (hc : ∀ b, b ≠ P → X.heap[b]? = wr.heap[b]?) : Kp9 w3 X := fun b cur h1 => (hc b (fun e => by
  have h2 := h b cur h1
  rw [e, hp] at h2
  injection h2 with h2
  injection h2 with _ h2
  exact absurd h2 (by decide))).trans (h b cur h1)
def PaV (W' : World) (z : Option Rdg) (row : Array Value) : Prop := match z with
  | none => row = #[.int .i64 0, .int .i64 0, .int .u64 0, .int .i64 0, .slice none 0 0, .slice none 0 0]
  | some x => ∃ tp tc pp pc, row = scR x.ce x.sl x.stp x.mu (.slice tp x.ts.length tc) (.slice pp x.ps.length pc) ∧ TRd W' tp x.ts ∧ IRd W' pp x.ps ∧ x.ps.length ≤ pc
def PsQ (W : World) (t : List UInt8) (e : Ending) (W' : World) : Prop := ∃ z n row E, e = .returned (.tuple #[.agg row, .int .i64 E, .int .i64 ((n : Nat) : Int)]) ∧ PaR t z n ∧ PaV W' z row ∧ E = (if z.isSome = true then 0 else 52) ∧ Below W.heap.size W W'
end Go.Proofs.YtmmaniolaljjlaaGreatDoor
/- The program's Parse of a script's text. (mkSfn.py) -/
namespace Go.Proofs.YtmmaniolaljjlaaGreatDoor
open Go.RowKit Go.Shelf Go.Maps
set_option linter.unusedVariables false

theorem RdAll.none_nil {s : Option Rdg} {ls : List (List UInt8)} (h : RdAll s ls none) : ls = [] := by
  cases h with
  | nil => rfl
  | cons s line x ls z hg hr =>
    exfalso
    have key : ∀ (u : Option Rdg) (l : List (List UInt8)) (z : Option Rdg), RdAll u l z → u ≠ none → z ≠ none := by
      intro u l z hu
      induction hu with
      | nil s => exact fun h => h
      | cons s line x ls z hg hr ih => exact fun _ => ih (by simp)
    exact key _ _ _ hr (by simp) rfl
theorem msS_rd {t : List UInt8} {ls : List (List UInt8)} {r : List UInt8} {i : Nat} {x : Rdg} (hl : LnT t ls r) (h : RdAll none (ls.take i) (some x)) (ht : t.length ≤ 5000000) : SzX x ∧ SOk x.ts x.ps := by
  have h1 := rd_msr h
  have h2 := ln_take hl i
  simp only [msS] at h1
  have hk := sok_of (rd_good0 h) (by omega)
  exact ⟨⟨hk.tl, hk.pl, hk.ll⟩, hk⟩
theorem ln_rest {t : List UInt8} {ls : List (List UInt8)} {r : List UInt8} (h : LnT t ls r) (i : Nat) : joinL (ls.drop i) ++ r = t.drop (joinL (ls.take i)).length := by
  have e := joinL_app (ls.take i) (ls.drop i)
  rw [List.take_append_drop] at e
  rw [h.1, e]
  simp
theorem ln_ex (t : List UInt8) : ∃ ls r, LnT t ls r := by
  induction t with
  | nil => exact ⟨[], [], rfl, noB_nil _, fun x hx => by simp at hx⟩
  | cons c t ih =>
    obtain ⟨ls, r, e, h1, h2⟩ := ih
    by_cases hc : c = 10
    · exact ⟨[] :: ls, r, by rw [joinL_cons, e, hc]; rfl, h1, fun x hx => by
        rcases List.mem_cons.1 hx with rfl | hx
        · exact noB_nil _
        · exact h2 x hx⟩
    · cases ls with
      | nil => exact ⟨[], c :: r, by simp [joinL] at e ⊢; exact e, fun x hx => by
          rcases List.mem_cons.1 hx with rfl | hx
          · exact hc
          · exact h1 x hx, fun x hx => by simp at hx⟩
      | cons l ls => exact ⟨(c :: l) :: ls, r, by rw [joinL_cons] at e ⊢; rw [e]; simp, h1, fun x hx => by
          rcases List.mem_cons.1 hx with rfl | hx
          · intro y hy
            rcases List.mem_cons.1 hy with rfl | hy
            · exact hc
            · exact h2 l (by simp) y hy
          · exact h2 x (by simp [hx])⟩
theorem joinL_len (ls : List (List UInt8)) : ls.length ≤ (joinL ls).length := by
  induction ls with
  | nil => simp [joinL]
  | cons a ls ih => rw [joinL_cons]; simp; omega
/-- a text that is not too great -/
structure BT (t : List UInt8) : Prop where
  len : t.length ≤ 100000000000
  ln : ∀ (ls : List (List UInt8)) (r : List UInt8), LnT t ls r → (∀ f ∈ ls, f.length ≤ 5000000) ∧ ∀ (i : Nat) (x : Rdg), RdAll none (ls.take i) (some x) → SzX x ∧ SOk x.ts x.ps
theorem bt_small {t : List UInt8} (ht : t.length ≤ 5000000) : BT t := ⟨by omega, fun ls r hln => ⟨fun f hf => by
    obtain ⟨a, b, e⟩ := List.append_of_mem hf
    have h1 := hln.1
    rw [e, joinL_app, joinL_cons] at h1
    have h2 := congrArg List.length h1
    simp at h2
    omega, fun i x h => msS_rd hln h ht⟩⟩
theorem cutI_endL (l r : List UInt8) (hl : l.length + r.length ≤ 100000000000) (hn : noB 10 l) (w : World) :
    Calls Tryz.prog 91 #[.string (mkS (l ++ 10 :: r)), .string ⟨#[10]⟩] w fun e w' => e = .returned (.tuple #[.string (mkS l), .string (mkS r), .bool true]) ∧ Below w.heap.size w w' := by
  have hix := Any.stringslite_Index_one Tryz.lays219 (mkS (l ++ 10 :: r)) 10 w
  rw [show Lib.indexByte (mkS (l ++ 10 :: r)).data.toList 10 = (l.length : Int) from ix_at hn] at hix
  have hsz : (mkS (l ++ 10 :: r)).size = l.length + 1 + r.length := by rw [mkS_size]; simp; omega
  have e1 : mkS l = (mkS (l ++ 10 :: r)).extract 0 l.length := by rw [mkS_extract]; simp
  have e2 : mkS r = (mkS (l ++ 10 :: r)).extract (l.length + 1) (mkS (l ++ 10 :: r)).size := by
    rw [mkS_extract, hsz]
    congr 1
    rw [show l ++ 10 :: r = (l ++ [10]) ++ r by simp, List.drop_left' (by simp), List.take_of_length_le (by omega)]
  rw [e1, e2]
  obtain ⟨s, hs⟩ : ∃ s, s = mkS (l ++ 10 :: r) := ⟨_, rfl⟩
  rw [← hs] at hix hsz ⊢
  obtain ⟨n, hn⟩ : ∃ n, n = l.length := ⟨_, rfl⟩
  rw [← hn] at hix ⊢
  have k1 : (0 : Int) ≤ (n : Int) := by omega
  have k2 : (n : Int) ≤ (s.size : Int) := by omega
  have k3 : (0 : Int) ≤ (n : Int) + 1 := by omega
  have k4 : (n : Int) + 1 ≤ (s.size : Int) := by omega
  have k5 : IntKind.i64.wrap ((n : Int) + 1) = (n : Int) + 1 := by rw [IntKind.wrap_i64]; omega
  have k6 : wrap64 ((n : Int) + 1) = (n : Int) + 1 := by unfold wrap64; omega
  clear e1 e2 hs hn hsz
  go_enter Tryz.func91, Tryz.ntmps91
  go_wp2_with (go_at_call 112; refine hix.mono ?_; rintro e w' ⟨rfl, rfl⟩)
  have mixed := Tryz.lays219.mixed
  go_region_o
  go_wp2
  go_ret3
  exact ⟨rfl, below_drewN (Below.refl _ _) 1⟩
theorem cut_endL (l r : List UInt8) (hl : l.length + r.length ≤ 100000000000) (hn : noB 10 l) (w : World) :
    Calls Tryz.prog 53 #[.string (mkS (l ++ 10 :: r)), .string ⟨#[10]⟩] w fun e w' => e = .returned (.tuple #[.string (mkS l), .string (mkS r), .bool true]) ∧ Below w.heap.size w w' := by
  have h := cutI_endL l r hl hn w
  obtain ⟨s, hs⟩ : ∃ s, s = mkS (l ++ 10 :: r) := ⟨_, rfl⟩
  rw [← hs] at h ⊢
  clear hs
  go_enter Tryz.func53, Tryz.ntmps53
  go_wp2_with fail
  refine h.mono ?_
  rintro e w1 ⟨rfl, hb⟩
  go_wp2
  go_ret3
  exact ⟨rfl, hb⟩
set_option maxRecDepth 100000 in
set_option maxHeartbeats 8000000 in
theorem sParse_any (t : List UInt8) (hBT : BT t) (W : World) (T : Tb W) (hW : Wd W) : Calls Tryz.prog 21 #[.string (mkS t)] W (PsQ W t) := by
  obtain ⟨ls, rr, hln⟩ := ln_ex t
  obtain ⟨w1, hw1⟩ : ∃ w1, w1 = W.alloc (.cells #[.int .i64 0, .int .i64 0, .int .u64 0, .int .i64 0, .slice none 0 0, .slice none 0 0] 46) := ⟨_, rfl⟩
  obtain ⟨R, hR⟩ : ∃ R, R = W.heap.size := ⟨_, rfl⟩
  have B1 : Below W.heap.size W w1 := by rw [hw1]; exact below_alloc _ _
  have Y1 : w1.heap[R]? = some (.cells #[.int .i64 0, .int .i64 0, .int .u64 0, .int .i64 0, .slice none 0 0, .slice none 0 0] 46 (0, 0)) := by rw [hw1, hR]; exact heap_alloc_new _ _
  have HNR := keepH (reading_new w1)
  obtain ⟨N, hN⟩ : ∃ N, N = ls.length := ⟨_, rfl⟩
  have ht := hBT.len
  have hN5 : N ≤ 100000000000 := by have := joinL_len ls; have := ln_take hln ls.length; rw [List.take_length] at this; omega
  obtain ⟨hfl, hszs⟩ := hBT.ln ls rr hln
  have HSZ := keepH hszs
  have HT := keepH (T.on B1)
  have HWD := keepH (hW.on B1)
  have HTL := keepH ht
  have HLN := keepH hln
  have HN := keepH hN
  have HFL := keepH hfl
  have HW1 := keepH hw1
  have HR := keepH hR
  have HB1 := keepH B1
  have HY1 := keepH Y1
  have HDR := keepH (ln_rest hln)
  have hst0 : t = joinL (ls.drop 0) ++ rr := by rw [List.drop_zero]; exact hln.1
  have HT0 := keepH hst0
  obtain ⟨s, hs⟩ : ∃ s, s = mkS t := ⟨_, rfl⟩
  rw [← hs]
  have HS := keepH hs
  clear hs T hW ht hw1 hR B1 Y1 hln hN hfl hszs hst0 hBT
  go_enter Tryz.func21, Tryz.ntmps21
  go_upto_region 1 with fail
  rw [← HW1.out, ← HR.out]
  go_wp2_with fail
  refine HNR.out.mono ?_
  rintro e w2 ⟨b, vb, m, rfl, hsr⟩
  have HSR0 := keepH hsr
  clear hsr HNR
  go_wp2_with fail
  go_loopw [6, 7, 8, 9, 10] (fun s6 s7 s8 s9 s10 wr => ∃ (i : Nat) (sr : ByteArray), i ≤ N ∧ s6 = .int .i64 (i : Int) ∧ s7 = .string sr ∧ Hid (sr = mkS (joinL (ls.drop i) ++ rr) ∧ ∃ st, RdAll none (ls.take i) st ∧ SR w1 b vb m st wr)) (fun s6 _ _ _ _ _ => N - (intOf s6).toNat)
  case atStart => exact ⟨0, s, by omega, rfl, rfl, keepH ⟨by rw [HS.out, ← HT0.out], none, .nil none, HSR0.out⟩⟩
  case round =>
    clear HSR0
    obtain ⟨i, sr, hi, rfl, rfl, HK⟩ := hrel
    obtain ⟨hsr, st, hrd, hst⟩ := HK.out
    have HSR := keepH hsr
    have HRD := keepH hrd
    have HST := keepH hst
    have BW : Below w1.heap.size w1 wr := hst.bel
    have HYR : Hid (wr.heap[R]? = some (.cells #[.int .i64 0, .int .i64 0, .int .u64 0, .int .i64 0, .slice none 0 0, .slice none 0 0] 46 (0, 0))) := keepH (heap_below HY1.out BW)
    have HBW := keepH (below_chain HB1.out BW)
    have HTW := keepH (HT.out.on BW)
    have HDW := keepH (HWD.out.on BW)
    have HLR : Hid (W.heap.size ≤ R) := keepH (by rw [HR.out]; exact Nat.le_refl _)
    have hqe : (sr.toList == ([] : List UInt8)) = decide (joinL (ls.drop i) ++ rr = []) := by rw [hsr, mkS_toList]; by_cases h : joinL (ls.drop i) ++ rr = [] <;> simp [h]
    clear hsr hrd hst BW HK
    by_cases hem : joinL (ls.drop i) ++ rr = []
    · have q0 : (sr.toList == ([] : List UInt8)) = true := by rw [hqe]; simp [hem]
      have q1 : (sr.toList != ([] : List UInt8)) = false := by rw [bne, q0]; rfl
      have hiN : i = N := by
        have h1 := congrArg List.length hem
        have h2 := joinL_len (ls.drop i)
        rw [List.length_append, List.length_nil] at h1
        rw [List.length_drop] at h2
        have := HN.out
        omega
      have hrn : rr = [] := (List.append_eq_nil_iff.1 hem).2
      subst hiN hrn
      clear hem hqe
      by_cases h0 : i = 0
      · have z1 : ((i : Int) == 0) = true := by rw [h0]; rfl
        have HPL : Hid (PaR t none (i + 1)) := keepH (by
          have hls : ls = [] := List.eq_nil_of_length_eq_zero (by rw [← HN.out]; exact h0)
          have := PaR.rest ls [] none HLN.out (.inr hls) (by rw [hls]; exact .nil none)
          rwa [← HN.out] at this)
        clear h0
        go_wp2_with (first | (refine wpList_store_row rfl 46 _ _ rfl R (#[.int .i64 0, .int .i64 0, .int .u64 0, .int .i64 0, .slice none 0 0, .slice none 0 0]) rfl rfl 46 (#[.int .i64 0, .int .i64 0, .int .u64 0, .int .i64 0, .slice none 0 0, .slice none 0 0]) HYR.out (by kernel_rfl) rfl (by simp [Value.oneCell']) ?_) | go_in)
        have hrow := setRow_heap _ R _ (#[.int .i64 0, .int .i64 0, .int .u64 0, .int .i64 0, .slice none 0 0, .slice none 0 0]) 46 (0, 0) HYR.out
        have e0 := cell_of hrow 0
        have e1 := cell_of hrow 1
        have e2 := cell_of hrow 2
        have e3 := cell_of hrow 3
        have e4 := cell_of hrow 4
        have e5 := cell_of hrow 5
        simp at e0 e1 e2 e3 e4 e5
        refine bodyPost_ret (v := .tuple #[.agg (#[.int .i64 0, .int .i64 0, .int .u64 0, .int .i64 0, .slice none 0 0, .slice none 0 0]), .int .i64 52, .int .i64 ((i + 1 : Nat) : Int)]) (by simp [results, Tryz.results21, go_sem, e0, e1, e2, e3, e4, e5]) rfl ?_
        exact ⟨none, i + 1, _, 52, rfl, HPL.out, rfl, rfl, below_setRow HBW.out HLR.out _⟩
      · have z1 : ((i : Int) == 0) = false := by simp; omega
        obtain ⟨x, hx⟩ : ∃ x, st = some x := by
          cases st with
          | some x => exact ⟨x, rfl⟩
          | none =>
            have := HRD.out.none_nil
            rw [HN.out, List.take_length] at this
            rw [this] at HN
            exact absurd HN.out h0
        subst hx
        have hrd : RdAll none ls (some x) := by have := HRD.out; rwa [HN.out, List.take_length] at this
        have hsk := (HSZ.out i _ HRD.out).2
        obtain ⟨ce, sl, stp, mu, tv, pv, ts, ps, hrs, -, hxx⟩ := HST.out
        have hxe := hxx x rfl
        subst hxe
        simp only at hsk
        obtain ⟨tp, tc, pp, pc, e1, e2, hTR, hIR, hpc⟩ := hrs.os.reads
        subst e1 e2
        have htl := tooLong_any ce sl stp mu tp tc pp pc ts ps hsk wr hTR
        obtain ⟨L, hL⟩ : ∃ L, L = decide (longT ts ps) := ⟨_, rfl⟩
        rw [← hL] at htl
        obtain ⟨tn, htn⟩ : ∃ v, v = ts.length := ⟨_, rfl⟩
        obtain ⟨pn, hpn⟩ : ∃ v, v = ps.length := ⟨_, rfl⟩
        rw [← htn, ← hpn] at htl hrs
        have HTLG := keepH htl
        have HRS := keepH hrs
        have HTRI := keepH (And.intro hTR (And.intro hIR hpc))
        have HRX : Hid (scR ce sl stp mu (.slice tp tn tc) (.slice pp pn pc) = scR ce sl stp mu (.slice tp ts.length tc) (.slice pp ps.length pc)) := keepH (by rw [htn, hpn])
        have HRDX := keepH hrd
        have HLL := keepH hL
        have y0 : wr.cell? ⟨b, 0, none⟩ = _ := cell_of HRS.out.bx 0
        have y1 : wr.cell? ⟨b, 1, none⟩ = _ := cell_of HRS.out.bx 1
        have y2 : wr.cell? ⟨b, 2, none⟩ = _ := cell_of HRS.out.bx 2
        have y3 : wr.cell? ⟨b, 3, none⟩ = _ := cell_of HRS.out.bx 3
        have y4 : wr.cell? ⟨b, 4, none⟩ = _ := cell_of HRS.out.bx 4
        have y5 : wr.cell? ⟨b, 5, none⟩ = _ := cell_of HRS.out.bx 5
        clear h0 hrd hsk hrs hxx hTR hIR hpc htl hL htn hpn
        go_wp2_with fail
        refine HTLG.out.mono ?_
        rintro e w4 ⟨rfl, B4⟩
        have HRS4 := keepH (HRS.out.on B4)
        have HY4 := keepH (heap_below HYR.out B4)
        have HB4 := keepH (below_chain HBW.out B4)
        have HC4 := keepH B4
        clear B4 y0 y1 y2 y3 y4 y5
        cases L
        · have HPL : Hid (PaR t (some ⟨ce, sl, stp, mu, ts, ps⟩) 0) := keepH (PaR.ok ls _ HLN.out HRDX.out (by have := HLL.out; simpa using this))
          have y0 : w4.cell? ⟨b, 0, none⟩ = _ := cell_of HRS4.out.bx 0
          have y1 : w4.cell? ⟨b, 1, none⟩ = _ := cell_of HRS4.out.bx 1
          have y2 : w4.cell? ⟨b, 2, none⟩ = _ := cell_of HRS4.out.bx 2
          have y3 : w4.cell? ⟨b, 3, none⟩ = _ := cell_of HRS4.out.bx 3
          have y4 : w4.cell? ⟨b, 4, none⟩ = _ := cell_of HRS4.out.bx 4
          have y5 : w4.cell? ⟨b, 5, none⟩ = _ := cell_of HRS4.out.bx 5
          go_wp2_with (first | (refine wpList_store_row rfl 46 _ _ rfl R (scR ce sl stp mu (.slice tp tn tc) (.slice pp pn pc)) rfl rfl 46 (#[.int .i64 0, .int .i64 0, .int .u64 0, .int .i64 0, .slice none 0 0, .slice none 0 0]) HY4.out (by kernel_rfl) rfl (by simp [Value.oneCell']) ?_) | go_in)
          have HRF : Hid (OS w1 (w4.setRow R (scR ce sl stp mu (.slice tp tn tc) (.slice pp pn pc))) (.slice tp tn tc) (.slice pp pn pc) ts ps) := keepH (HRS4.out.os.keep (KpM.at (P := R) ⟨rfl, rfl, rfl, by simp, fun b hb hn => setRow_other _ _ _ _ hn⟩ HY4.out nrow (i0 ⟨0, rfl⟩)))
          have hrow := setRow_heap _ R _ (scR ce sl stp mu (.slice tp tn tc) (.slice pp pn pc)) 46 (0, 0) HY4.out
          have e0 := cell_of hrow 0
          have e1 := cell_of hrow 1
          have e2 := cell_of hrow 2
          have e3 := cell_of hrow 3
          have e4 := cell_of hrow 4
          have e5 := cell_of hrow 5
          simp at e0 e1 e2 e3 e4 e5
          refine bodyPost_ret (v := .tuple #[.agg (scR ce sl stp mu (.slice tp tn tc) (.slice pp pn pc)), .int .i64 0, .int .i64 ((0 : Nat) : Int)]) (by simp [results, Tryz.results21, go_sem, e0, e1, e2, e3, e4, e5]) rfl ?_
          refine ⟨some ⟨ce, sl, stp, mu, ts, ps⟩, 0, _, 0, rfl, HPL.out, ⟨tp, tc, pp, pc, HRX.out, ?_, ?_, HTRI.out.2.2⟩, rfl, below_setRow HB4.out HLR.out _⟩
          · obtain ⟨tp', tc', pp', pc', e1, e2, h1, h2, h3⟩ := HRF.out.reads
            injection e1 with e1
            rw [← e1] at h1
            exact h1
          · obtain ⟨tp', tc', pp', pc', e1, e2, h1, h2, h3⟩ := HRF.out.reads
            injection e2 with e2
            rw [← e2] at h2
            exact h2
        · have HPL : Hid (PaR t none (i + 1)) := keepH (by rw [HN.out]; exact PaR.long ls _ HLN.out HRDX.out (by have := HLL.out; simpa using this))
          go_wp2_with (first | (refine wpList_store_row rfl 46 _ _ rfl R (#[.int .i64 0, .int .i64 0, .int .u64 0, .int .i64 0, .slice none 0 0, .slice none 0 0]) rfl rfl 46 (#[.int .i64 0, .int .i64 0, .int .u64 0, .int .i64 0, .slice none 0 0, .slice none 0 0]) HY4.out (by kernel_rfl) rfl (by simp [Value.oneCell']) ?_) | go_in)
          have hrow := setRow_heap _ R _ (#[.int .i64 0, .int .i64 0, .int .u64 0, .int .i64 0, .slice none 0 0, .slice none 0 0]) 46 (0, 0) HY4.out
          have e0 := cell_of hrow 0
          have e1 := cell_of hrow 1
          have e2 := cell_of hrow 2
          have e3 := cell_of hrow 3
          have e4 := cell_of hrow 4
          have e5 := cell_of hrow 5
          simp at e0 e1 e2 e3 e4 e5
          refine bodyPost_ret (v := .tuple #[.agg (#[.int .i64 0, .int .i64 0, .int .u64 0, .int .i64 0, .slice none 0 0, .slice none 0 0]), .int .i64 52, .int .i64 ((i + 1 : Nat) : Int)]) (by simp [results, Tryz.results21, go_sem, e0, e1, e2, e3, e4, e5]) rfl ?_
          exact ⟨none, i + 1, _, 52, rfl, HPL.out, rfl, rfl, below_setRow HB4.out HLR.out _⟩
    · have q0 : (sr.toList == ([] : List UInt8)) = false := by rw [hqe]; simp only [decide_eq_false_iff_not]; exact hem
      have q1 : (sr.toList != ([] : List UInt8)) = true := by rw [bne, q0]; rfl
      clear hqe
      by_cases hlt : i < N
      · obtain ⟨f, hf⟩ : ∃ f, ls[i]? = some f := ⟨ls[i]'(by have := HN.out; omega), List.getElem?_eq_getElem _⟩
        obtain ⟨rest, hrest⟩ : ∃ rest, rest = joinL (ls.drop (i + 1)) ++ rr := ⟨_, rfl⟩
        have hcut : joinL (ls.drop i) ++ rr = f ++ 10 :: rest := by
          rw [drop_at hf, joinL_cons, hrest]
          simp
        have hfl5 := HFL.out f (List.mem_of_getElem? hf)
        have hlen : f.length + rest.length ≤ 100000000000 := by
          have h1 := congrArg List.length hcut
          have h2 := HDR.out i
          rw [h2] at h1
          simp at h1
          have := HTL.out
          omega
        have hnb := HLN.out.2.2 f (List.mem_of_getElem? hf)
        have hct := cut_endL f rest hlen hnb wr
        rw [← hcut, ← HSR.out] at hct
        have hsz : SzR st := fun x hx => by
          subst hx
          exact (HSZ.out i _ HRD.out).1
        have HTK := keepH (fun w (hb : Below wr.heap.size wr w) => rd_takes w1 b vb m st f hfl5 hsz w (HTW.out.on hb) (HDW.out.on hb) (HST.out.on hb))
        obtain ⟨sf, hsf⟩ : ∃ s, s = mkS f := ⟨_, rfl⟩
        obtain ⟨sq, hsq⟩ : ∃ s, s = mkS rest := ⟨_, rfl⟩
        rw [← hsf, ← hsq] at hct
        rw [← hsf] at HTK
        have HSQ : Hid (sq = mkS (joinL (ls.drop (i + 1)) ++ rr)) := keepH (by rw [hsq, hrest])
        have HF := keepH hf
        have HCT := keepH hct
        clear hem hf hrest hcut hfl5 hlen hnb hct hsz hsf hsq
        go_wp2_with fail
        refine HCT.out.mono ?_
        rintro e w3 ⟨rfl, B3⟩
        have HTK3 := keepH (HTK.out w3 B3)
        have HY3 := keepH (heap_below HYR.out B3)
        clear B3 HTK
        go_wp2_with fail
        refine HTK3.out.mono ?_
        rintro e w4 ⟨ok, rfl, hb4, hyes, hno⟩
        have HY4 := keepH (heap_below HY1.out hb4)
        have HB4 := keepH (below_chain HB1.out hb4)
        clear hb4
        cases ok
        · have HPL : Hid (PaR t none (i + 1)) := keepH (par_line HLN.out HF.out HRD.out (hno rfl))
          clear hyes hno
          go_wp2_with (first | (refine wpList_store_row rfl 46 _ _ rfl R (#[.int .i64 0, .int .i64 0, .int .u64 0, .int .i64 0, .slice none 0 0, .slice none 0 0]) rfl rfl 46 (#[.int .i64 0, .int .i64 0, .int .u64 0, .int .i64 0, .slice none 0 0, .slice none 0 0]) HY4.out (by kernel_rfl) rfl (by simp [Value.oneCell']) ?_) | go_in)
          have hrow := setRow_heap _ R _ (#[.int .i64 0, .int .i64 0, .int .u64 0, .int .i64 0, .slice none 0 0, .slice none 0 0]) 46 (0, 0) HY4.out
          have e0 := cell_of hrow 0
          have e1 := cell_of hrow 1
          have e2 := cell_of hrow 2
          have e3 := cell_of hrow 3
          have e4 := cell_of hrow 4
          have e5 := cell_of hrow 5
          simp at e0 e1 e2 e3 e4 e5
          refine bodyPost_ret (v := .tuple #[.agg (#[.int .i64 0, .int .i64 0, .int .u64 0, .int .i64 0, .slice none 0 0, .slice none 0 0]), .int .i64 52, .int .i64 ((i + 1 : Nat) : Int)]) (by simp [results, Tryz.results21, go_sem, e0, e1, e2, e3, e4, e5]) rfl ?_
          exact ⟨none, i + 1, _, 52, rfl, HPL.out, rfl, rfl, below_setRow HB4.out HLR.out _⟩
        · obtain ⟨x, hg, hsr⟩ := hyes rfl
          have HNX := keepH (rd_next HF.out HRD.out hg)
          have HSX := keepH hsr
          clear hyes hno hg hsr
          go_wp2_with fail
          go_roundw
          case rel => exact ⟨i + 1, sq, by omega, by first | rfl | go_num, rfl, keepH ⟨HSQ.out, some x, HNX.out, HSX.out⟩⟩
          case measure => simp [intOf]; omega
      · obtain rfl : i = N := by omega
        have hdr : ls.drop i = [] := by rw [HN.out, List.drop_length]
        rw [hdr] at hem
        have hem : rr ≠ [] := hem
        have hct := cut_none rr HLN.out.2.1 wr
        have hsre := HSR.out
        rw [hdr] at hsre
        rw [show mkS rr = sr from hsre.symm] at hct
        have HPL : Hid (PaR t none (i + 1)) := keepH (by
          have h9 := HRD.out
          rw [HN.out, List.take_length] at h9
          have := PaR.rest ls rr st HLN.out (.inl hem) h9
          rwa [← HN.out] at this)
        have HCT := keepH hct
        clear hem hdr hct hsre hlt
        go_wp2_with fail
        refine HCT.out.mono ?_
        rintro e w4 ⟨rfl, B4⟩
        have HY4 := keepH (heap_below HYR.out B4)
        have HB4 := keepH (below_chain HBW.out B4)
        clear B4
        go_wp2_with (first | (refine wpList_store_row rfl 46 _ _ rfl R (#[.int .i64 0, .int .i64 0, .int .u64 0, .int .i64 0, .slice none 0 0, .slice none 0 0]) rfl rfl 46 (#[.int .i64 0, .int .i64 0, .int .u64 0, .int .i64 0, .slice none 0 0, .slice none 0 0]) HY4.out (by kernel_rfl) rfl (by simp [Value.oneCell']) ?_) | go_in)
        have hrow := setRow_heap _ R _ (#[.int .i64 0, .int .i64 0, .int .u64 0, .int .i64 0, .slice none 0 0, .slice none 0 0]) 46 (0, 0) HY4.out
        have e0 := cell_of hrow 0
        have e1 := cell_of hrow 1
        have e2 := cell_of hrow 2
        have e3 := cell_of hrow 3
        have e4 := cell_of hrow 4
        have e5 := cell_of hrow 5
        simp at e0 e1 e2 e3 e4 e5
        refine bodyPost_ret (v := .tuple #[.agg (#[.int .i64 0, .int .i64 0, .int .u64 0, .int .i64 0, .slice none 0 0, .slice none 0 0]), .int .i64 52, .int .i64 ((i + 1 : Nat) : Int)]) (by simp [results, Tryz.results21, go_sem, e0, e1, e2, e3, e4, e5]) rfl ?_
        exact ⟨none, i + 1, _, 52, rfl, HPL.out, rfl, rfl, below_setRow HB4.out HLR.out _⟩
end Go.Proofs.YtmmaniolaljjlaaGreatDoor
/- Two operations that are the same, by the document. -/
namespace Go.Proofs.YtmmaniolaljjlaaGreatDoor
open Go.RowKit Go.Shelf
set_option linter.unusedVariables false

theorem ref_neq (s : Bool) (a b : Int) (ha : isI a) (hb : isI b) (w : World) :
    (binOp .neq 25 (refV s a b) (refV s a b)).run Tryz.prog w = .ok (.bool false) w := by
  have h := ref_eql s a b s a b ha hb ha hb w
  simp only [binOp, go_sem]
  simp [h, Result.andThen]
set_option maxRecDepth 100000 in
set_option maxHeartbeats 4000000 in
theorem sameOp_any (k key val old hnd : Nat) (set : Bool) (rt ri : Int) (kp kp' : Option Addr) (kc kc' lo hi : Nat) (keys : List Nat) (ha : isI rt) (hb : isI ri) (hl : keys.length ≤ 10000000) (W : World) (hK : KRd W kp keys) (hK' : KRd W kp' keys) :
    Calls Tryz.prog 12 #[.agg (opR k key val old hnd set rt ri (.slice kp keys.length kc) lo hi), .agg (opR k key val old hnd set rt ri (.slice kp' keys.length kc') lo hi)] W fun e W' => e = .returned (.bool true) ∧ Below W.heap.size W W' := by
  have hr := fun w => ref_neq set rt ri ha hb w
  obtain ⟨n, hn⟩ : ∃ n, n = keys.length := ⟨_, rfl⟩
  rw [← hn] at hl ⊢
  obtain ⟨w1, hw1⟩ : ∃ w1, w1 = W.alloc (.cells (opR k key val old hnd set rt ri (.slice kp n kc) lo hi) 28) := ⟨_, rfl⟩
  obtain ⟨P, hP⟩ : ∃ P, P = W.heap.size := ⟨_, rfl⟩
  have B1 : Below W.heap.size W w1 := by rw [hw1]; exact below_alloc _ _
  have X1 : w1.heap[P]? = some (.cells (opR k key val old hnd set rt ri (.slice kp n kc) lo hi) 28 (0, 0)) := by rw [hw1, hP]; exact heap_alloc_new _ _
  obtain ⟨w2, hw2⟩ : ∃ w2, w2 = w1.alloc (.cells (opR k key val old hnd set rt ri (.slice kp' n kc') lo hi) 28) := ⟨_, rfl⟩
  obtain ⟨Q, hQ⟩ : ∃ Q, Q = w1.heap.size := ⟨_, rfl⟩
  have B2 : Below w1.heap.size w1 w2 := by rw [hw2]; exact below_alloc _ _
  have X2 : w2.heap[Q]? = some (.cells (opR k key val old hnd set rt ri (.slice kp' n kc') lo hi) 28 (0, 0)) := by rw [hw2, hQ]; exact heap_alloc_new _ _
  have Y2 := heap_below X1 B2
  have hQ2 : Q = W.heap.size + 1 := by rw [hQ, hw1]; simp
  have HQ2 := keepH hQ2
  have HW2 : Hid (w2 = (W.alloc (.cells (opR k key val old hnd set rt ri (.slice kp n kc) lo hi) 28)).alloc (.cells (opR k key val old hnd set rt ri (.slice kp' n kc') lo hi) 28)) := keepH (by rw [hw2, hw1])
  have HP := keepH hP
  have HB2 := keepH (below_chain B1 B2)
  have HK := keepH (hK.on (below_chain B1 B2))
  have HK' := keepH (hK'.on (below_chain B1 B2))
  have HX2 := keepH X2
  have HY2 := keepH Y2
  have HN := keepH hn
  have p0 : w2.cell? ⟨P, 0, none⟩ = _ := cell_of Y2 0
  have p1 : w2.cell? ⟨P, 1, none⟩ = _ := cell_of Y2 1
  have p2 : w2.cell? ⟨P, 2, none⟩ = _ := cell_of Y2 2
  have p3 : w2.cell? ⟨P, 3, none⟩ = _ := cell_of Y2 3
  have p4 : w2.cell? ⟨P, 4, none⟩ = _ := cell_of Y2 4
  have p5 : w2.cell? ⟨P, 5, none⟩ = _ := cell_of Y2 5
  have p6 : w2.cell? ⟨P, 6, none⟩ = _ := cell_of Y2 6
  have p7 : w2.cell? ⟨P, 7, none⟩ = _ := cell_of Y2 7
  have p8 : w2.cell? ⟨P, 8, none⟩ = _ := cell_of Y2 8
  have p9 : w2.cell? ⟨P, 9, none⟩ = _ := cell_of Y2 9
  have p10 : w2.cell? ⟨P, 10, none⟩ = _ := cell_of Y2 10
  have q0 : w2.cell? ⟨Q, 0, none⟩ = _ := cell_of X2 0
  have q1 : w2.cell? ⟨Q, 1, none⟩ = _ := cell_of X2 1
  have q2 : w2.cell? ⟨Q, 2, none⟩ = _ := cell_of X2 2
  have q3 : w2.cell? ⟨Q, 3, none⟩ = _ := cell_of X2 3
  have q4 : w2.cell? ⟨Q, 4, none⟩ = _ := cell_of X2 4
  have q5 : w2.cell? ⟨Q, 5, none⟩ = _ := cell_of X2 5
  have q6 : w2.cell? ⟨Q, 6, none⟩ = _ := cell_of X2 6
  have q7 : w2.cell? ⟨Q, 7, none⟩ = _ := cell_of X2 7
  have q8 : w2.cell? ⟨Q, 8, none⟩ = _ := cell_of X2 8
  have q9 : w2.cell? ⟨Q, 9, none⟩ = _ := cell_of X2 9
  have q10 : w2.cell? ⟨Q, 10, none⟩ = _ := cell_of X2 10
  clear hw1 hP B1 X1 hw2 hQ B2 X2 Y2 hQ2 hn hK hK' ha hb
  go_enter Tryz.func12, Tryz.ntmps12
  go_upto_region 1 with fail
  rw [← HW2.out, ← HQ2.out, ← HP.out]
  go_wp2_with fail
  clear p0 p1 p2 p3 p4 p5 p6 p7 p9 p10 q0 q1 q2 q3 q4 q5 q6 q7 q9 q10 p8 q8 hr
  go_loopw [5] (fun s wr => ∃ i : Nat, i ≤ n ∧ s = .int .i64 (i : Int) ∧ Hid (Below w2.heap.size w2 wr)) (fun s _ => n - (intOf s).toNat)
  case atStart => exact ⟨0, by omega, rfl, keepH (Below.refl _ _)⟩
  case round =>
    obtain ⟨i, him, rfl, HR⟩ := hrel
    have p8 : wr.cell? ⟨P, 8, none⟩ = _ := cell_of (heap_below HY2.out HR.out) 8
    have q8 : wr.cell? ⟨Q, 8, none⟩ = _ := cell_of (heap_below HX2.out HR.out) 8
    by_cases hlt : i < n
    · have t1 : (i : Int) < (n : Int) := by omega
      have t0 : (0 : Int) ≤ (i : Int) := by omega
      obtain ⟨x, hx⟩ : ∃ x, keys[i]? = some x := ⟨keys[i]'(by have := HN.out; omega), List.getElem?_eq_getElem _⟩
      obtain ⟨bk, off, rfl, _, c0⟩ := (HK.out.on HR.out).get i x hx
      obtain ⟨bk', off', rfl, _, d0⟩ := (HK'.out.on HR.out).get i x hx
      obtain ⟨z, hz⟩ : ∃ z : Int, z = (x : Int) := ⟨_, rfl⟩
      rw [← hz] at c0 d0
      clear hx hz
      go_wp2_with fail
      go_quiet (fail)
      go_wp2_with fail
      go_roundw
      case rel => exact ⟨i + 1, by omega, by first | rfl | go_num, keepH (HR.out.trans ⟨rfl, rfl, rfl, Nat.le_refl _, fun _ _ => rfl⟩)⟩
      case measure => simp [intOf]; omega
    · obtain rfl : i = n := by omega
      have t1 : ¬ (i : Int) < (i : Int) := by omega
      go_wp2_with fail
      go_ret
      exact ⟨by simp, below_chain HB2.out HR.out⟩
end Go.Proofs.YtmmaniolaljjlaaGreatDoor
