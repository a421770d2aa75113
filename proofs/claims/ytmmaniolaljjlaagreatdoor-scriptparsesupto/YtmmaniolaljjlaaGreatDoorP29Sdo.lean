/- What must be whatever is asked of a script's lines. -/
import Derived.Test.YtmmaniolaljjlaaGreatDoorP17Scs
import Derived.Test.YtmmaniolaljjlaaGreatDoorP28Ser
import Derived.Test.YtmmaniolaljjlaaGreatDoorP12Sec
import Derived.Maps.AppendAt
import Derived.Lib.SmallJoins
import Derived.Deep.Slices
import Derived.Carry
import Derived.OpenShut
import Derived.SizedLaws
import Derived.Test.YtmmaniolaljjlaaGreatDoorRows
import Derived.Test.YtmmaniolaljjlaaGreatDoorP13Scp
import Derived.ProofKit
import Derived.LaidMore
import Derived.Stop.Joined
import Derived.Stop.LaidErr
import Derived.Lib.LaidTab
namespace Go.Proofs.YtmmaniolaljjlaaGreatDoor
open Go.RowKit Go.Shelf
set_option linter.unusedVariables false

theorem u_small (n : Nat) (h : n < 1000) : isU n := by unfold isU; omega
theorem i_small (n : Int) (h : 0 ≤ n ∧ n < 1000) : isI n := ⟨by omega, by omega⟩
def relO : Opx := ⟨6, 0, 0, 0, 0, true, 0, 2, [], 0, 0⟩
theorem rel_right : rightO relO := ⟨⟨by decide, u_small _ (by decide), u_small _ (by decide), u_small _ (by decide), u_small _ (by decide), i_small _ (by decide), i_small _ (by decide), fun u hu => by simp [relO] at hu, u_small _ (by decide), u_small _ (by decide)⟩, by decide⟩
theorem rel_text : [114, 101, 108, 101, 97, 115, 101, 32, 64, 48, 46, 50] = textO relO := by decide +kernel
theorem put_text : opT 2 7 1 0 0 false 0 0 [] 0 0 = [112, 117, 116, 32, 55, 32, 49] := by decide +kernel
theorem put_fault : faultN 2 7 1 0 0 false 0 0 none 0 0 0 0 = 0 := by decide +kernel
theorem rel_ref (w : World) : (binOp .eql 25 (refV true 0 2) (refV true 0 2)).run Tryz.prog w = .ok (.bool true) w := by
  have h := ref_eql true 0 2 true 0 2 (i_small _ (by decide)) (i_small _ (by decide)) (i_small _ (by decide)) (i_small _ (by decide)) w
  simp only [binOp, go_sem]
  simp [h, Result.andThen]
set_option maxRecDepth 100000 in
set_option maxHeartbeats 4000000 in
theorem sLive_any (W : World) (hW : Wd W) (T : Tb W) : Calls Tryz.prog 11 #[] W fun e W' => e = .returned (.bool true) ∧ Below W.heap.size W W' := by
  have HP := keepH (printOp_any 2 7 1 0 0 false 0 0 none 0 0 0 [] (by decide) (u_small _ (by decide)) (u_small _ (by decide)) (u_small _ (by decide)) (u_small _ (by decide)) (u_small _ (by decide)) (u_small _ (by decide)) (i_small _ (by decide)) (i_small _ (by decide)) (fun u hu => by simp at hu) (by simp) W hW T (.inl rfl))
  have HQ := keepH (fun w (hb : Below W.heap.size W w) => parseOp_any [114, 101, 108, 101, 97, 115, 101, 32, 64, 48, 46, 50] (by decide) w (hW.on hb) (T.on hb))
  have hrr := rel_ref
  have hss : ((⟨#[112, 117, 116, 32, 55, 32, 49]⟩ : ByteArray).toList == (⟨#[112, 117, 116, 32, 55, 32, 49]⟩ : ByteArray).toList) = true := by simp
  clear hW T
  go_enter Tryz.func11, Tryz.ntmps11
  go_wp2_with fail
  refine HP.out.mono ?_
  rintro e w1 ⟨E, hE, rfl, B1⟩
  have hE0 : E = 0 := hE.trans put_fault
  subst hE0
  rw [if_pos rfl, put_text]
  have HB1 := keepH B1
  have HQ1 := keepH (HQ.out w1 B1)
  clear hE B1
  go_wp2_with fail
  refine HQ1.out.mono ?_
  rintro e w2 ⟨ok, o, kp, kc, rfl, hpq, hku, hzo, B2⟩
  obtain ⟨rfl, rfl⟩ := hpq.2 relO rel_right rel_text
  have HB2 := keepH (below_chain HB1.out B2)
  clear hpq hku hzo B2
  simp only [opV, relO]
  obtain ⟨w4, hw4⟩ : ∃ w4, w4 = w2.alloc (.cells (opR 6 0 0 0 0 true 0 2 (.slice kp 0 kc) 0 0) 28) := ⟨_, rfl⟩
  obtain ⟨Q, hQ⟩ : ∃ Q, Q = w2.heap.size := ⟨_, rfl⟩
  have B4 : Below w2.heap.size w2 w4 := by rw [hw4]; exact below_alloc _ _
  have X4 : w4.heap[Q]? = some (.cells (opR 6 0 0 0 0 true 0 2 (.slice kp 0 kc) 0 0) 28 (0, 0)) := by rw [hw4, hQ]; exact heap_alloc_new _ _
  have HB4 := keepH (below_chain HB2.out B4)
  have HW4 := keepH hw4
  have HQQ := keepH hQ
  have d0 : w4.cell? ⟨Q, 0, none⟩ = _ := cell_of X4 0
  have d5 : w4.cell? ⟨Q, 5, none⟩ = _ := cell_of X4 5
  have d6 : w4.cell? ⟨Q, 6, none⟩ = _ := cell_of X4 6
  have d7 : w4.cell? ⟨Q, 7, none⟩ = _ := cell_of X4 7
  clear hw4 hQ B4 X4
  go_upto_region 3 with fail
  rw [show w2.alloc (.cells #[.int .u8 6, .int .u64 0, .int .u64 0, .int .u64 0, .int .u64 0, .bool true, .int .i64 0, .int .i64 2, .slice kp 0 kc, .int .u64 0, .int .u64 0] 28) = w4 from HW4.out.symm, ← HQQ.out]
  go_wp2_with fail
  go_ret
  exact ⟨by simp, HB4.out⟩
end Go.Proofs.YtmmaniolaljjlaaGreatDoor
/- The law ScriptParses, walked. -/
namespace Go.Proofs.YtmmaniolaljjlaaGreatDoor
open Go.RowKit Go.Shelf Go.Maps
set_option linter.unusedVariables false

def zR : Option Rdg → Rdg
  | none => ⟨0, 0, 0, 0, [], []⟩
  | some x => x
theorem pav_form {W' : World} {z : Option Rdg} {row : Array Value} (h : PaV W' z row) : ∃ tp tc pp pc, row = scR (zR z).ce (zR z).sl (zR z).stp (zR z).mu (.slice tp (zR z).ts.length tc) (.slice pp (zR z).ps.length pc) ∧ TRd W' tp (zR z).ts ∧ IRd W' pp (zR z).ps ∧ (zR z).ps.length ≤ pc := by
  cases z with
  | none => exact ⟨none, 0, none, 0, h, .inl rfl, .inl rfl, Nat.le_refl _⟩
  | some x => exact h
theorem par_rd {t : List UInt8} {x : Rdg} {n : Nat} (h : PaR t (some x) n) : n = 0 ∧ ∃ ls, LnT t ls [] ∧ RdAll none ls (some x) ∧ ¬ longT x.ts x.ps := by
  generalize hs : (some x : Option Rdg) = s at h
  cases h with
  | ok ls y a b c => injection hs with hs; subst hs; exact ⟨rfl, ls, a, b, c⟩
  | long => cases hs
  | line => cases hs
  | rest => cases hs
structure ZOk (x : Rdg) : Prop where
  ce : isI x.ce
  sl : isI x.sl
  stp : isU x.stp
  mu : isI x.mu
  ok : SOk x.ts x.ps
theorem par_ok {t : List UInt8} {z : Option Rdg} {n : Nat} (h : PaR t z n) (ht : t.length ≤ 5000000) : ZOk (zR z) := by
  cases z with
  | none => exact ⟨⟨by decide, by decide⟩, ⟨by decide, by decide⟩, isU0, ⟨by decide, by decide⟩, ⟨by simp [zR], by simp [zR], fun l hl => by simp [zR] at hl, fun l hl => by simp [zR] at hl, fun x hx => by simp [zR] at hx⟩⟩
  | some x =>
    obtain ⟨_, ls, a, b, _⟩ := par_rd h
    have hg := rd_good0 b
    have hk := (msS_rd (i := ls.length) a (by rw [List.take_length]; exact b) ht).2
    exact ⟨hg.ce, hg.sl, hg.stp, hg.mu, hk⟩
set_option maxRecDepth 100000 in
set_option maxHeartbeats 8000000 in
theorem parses_walk (t : List UInt8) (ht : t.length ≤ 5000000) (W : World) (T : Tb W) (hW : Wd W) : Calls Tryz.prog 5 #[.string (mkS t)] W fun e W' => e = .returned (.bool true) ∧ Below W.heap.size W W' := by
  have HP1 := keepH (sParse_any t (bt_small ht) W T hW)
  have HP2 := keepH (fun w (hb : Below W.heap.size W w) => dParse_any t ht w (T.on hb))
  have HLV := keepH (fun w (hb : Below W.heap.size W w) => sLive_any w (hW.on hb) (T.on hb))
  obtain ⟨s, hs⟩ : ∃ s, s = mkS t := ⟨_, rfl⟩
  rw [← hs] at HP1 HP2 ⊢
  have HTL := keepH ht
  clear hs T hW ht
  go_enter Tryz.func5, Tryz.ntmps5
  go_wp2_with fail
  refine HP1.out.mono ?_
  rintro e w1 ⟨z, n, row, E, rfl, hpar, hpv, hE, B1⟩
  have hzk := par_ok hpar HTL.out
  obtain ⟨tp, tc, pp, pc, rfl, hT, hP, hpc⟩ := pav_form hpv
  have hsm := fun tq td pq pd w (hT' : TRd w tp (zR z).ts) (hP' : IRd w pp (zR z).ps) (hTq : TRd w tq (zR z).ts) (hPq : IRd w pq (zR z).ps) => dSame_any (zR z).ce (zR z).sl (zR z).stp (zR z).mu hzk.ce hzk.sl hzk.stp hzk.mu tp tq tc td pp pq pc pd (zR z).ts (zR z).ps hzk.ok w hT' hTq hP' hPq
  obtain ⟨tn, htn⟩ : ∃ v, v = (zR z).ts.length := ⟨_, rfl⟩
  obtain ⟨pn, hpn⟩ : ∃ v, v = (zR z).ps.length := ⟨_, rfl⟩
  obtain ⟨ce, hce⟩ : ∃ v, v = (zR z).ce := ⟨_, rfl⟩
  obtain ⟨sl, hsl⟩ : ∃ v, v = (zR z).sl := ⟨_, rfl⟩
  obtain ⟨stp, hstp⟩ : ∃ v, v = (zR z).stp := ⟨_, rfl⟩
  obtain ⟨mu, hmu⟩ : ∃ v, v = (zR z).mu := ⟨_, rfl⟩
  rw [← htn, ← hpn, ← hce, ← hsl, ← hstp, ← hmu] at hsm ⊢
  have HEQ := keepH (And.intro htn (And.intro hpn (And.intro hce (And.intro hsl (And.intro hstp hmu)))))
  have HSM := keepH hsm
  have HPR := keepH hpar
  have HT := keepH hT
  have HP := keepH hP
  have HB1 := keepH B1
  have HE := keepH hE
  clear hpar hpv hE B1 hzk hT hP hpc hsm htn hpn hce hsl hstp hmu
  go_upto_region 2 with (first | (refine wpList_store_row rfl 46 _ _ rfl w1.heap.size (scR ce sl stp mu (.slice tp tn tc) (.slice pp pn pc)) rfl rfl 46 (#[.int .i64 0, .int .i64 0, .int .u64 0, .int .i64 0, .slice none 0 0, .slice none 0 0]) (heap_alloc_new _ _) (by kernel_rfl) rfl (by simp [Value.oneCell']) ?_) | fail)
  obtain ⟨w2, hw2⟩ : ∃ w2, w2 = (w1.alloc (.cells (#[.int .i64 0, .int .i64 0, .int .u64 0, .int .i64 0, .slice none 0 0, .slice none 0 0]) 46)).setRow w1.heap.size (scR ce sl stp mu (.slice tp tn tc) (.slice pp pn pc)) := ⟨_, rfl⟩
  obtain ⟨A, hA⟩ : ∃ A, A = w1.heap.size := ⟨_, rfl⟩
  rw [← hw2, ← hA]
  have B2 : Below w1.heap.size w1 w2 := by rw [hw2]; exact below_setRow (below_alloc _ _) (Nat.le_refl _) _
  have HX2 : Hid (w2.heap[A]? = some (.cells (scR ce sl stp mu (.slice tp tn tc) (.slice pp pn pc)) 46 (0, 0))) := keepH (by rw [hw2, hA]; exact setRow_heap _ _ _ _ _ _ (heap_alloc_new _ _))
  have HB2 := keepH (below_chain HB1.out B2)
  have HT2 := keepH (HT.out.on B2)
  have HP22 := keepH (HP.out.on B2)
  have HQ2 := keepH (HP2.out w2 HB2.out)
  clear hw2 hA B2 HP2 HT HP HB1 HP1
  go_wp2_with fail
  refine HQ2.out.mono ?_
  rintro e w3 ⟨z', n', row', E', rfl, hpar, hpv, hE, B3⟩
  obtain ⟨ez, en⟩ := hpar.one HPR.out
  subst ez en
  have eE : E' = E := by rw [hE]; exact HE.out.symm
  subst eE
  obtain ⟨tq, td, pq, pd, rfl, hTq, hPq, -⟩ := pav_form hpv
  obtain ⟨htn, hpn, hce, hsl, hstp, hmu⟩ := HEQ.out
  rw [← htn, ← hpn, ← hce, ← hsl, ← hstp, ← hmu]
  have HTQ := keepH hTq
  have HPQ := keepH hPq
  have HX3 := keepH (heap_below HX2.out B3)
  have HB3 := keepH (below_chain HB2.out B3)
  have HT3 := keepH (HT2.out.on B3)
  have HP3 := keepH (HP22.out.on B3)
  clear hpar hpv hE B3 hTq hPq htn hpn hce hsl hstp hmu HQ2 HX2 HB2 HT2 HP22
  go_upto_region 3 with (first | (refine wpList_store_row rfl 46 _ _ rfl w3.heap.size (scR ce sl stp mu (.slice tq tn td) (.slice pq pn pd)) rfl rfl 46 (#[.int .i64 0, .int .i64 0, .int .u64 0, .int .i64 0, .slice none 0 0, .slice none 0 0]) (heap_alloc_new _ _) (by kernel_rfl) rfl (by simp [Value.oneCell']) ?_) | fail)
  obtain ⟨w4, hw4⟩ : ∃ w4, w4 = (w3.alloc (.cells (#[.int .i64 0, .int .i64 0, .int .u64 0, .int .i64 0, .slice none 0 0, .slice none 0 0]) 46)).setRow w3.heap.size (scR ce sl stp mu (.slice tq tn td) (.slice pq pn pd)) := ⟨_, rfl⟩
  obtain ⟨B, hB⟩ : ∃ B, B = w3.heap.size := ⟨_, rfl⟩
  rw [← hw4, ← hB]
  have B4 : Below w3.heap.size w3 w4 := by rw [hw4]; exact below_setRow (below_alloc _ _) (Nat.le_refl _) _
  have HY4 : Hid (w4.heap[B]? = some (.cells (scR ce sl stp mu (.slice tq tn td) (.slice pq pn pd)) 46 (0, 0))) := keepH (by rw [hw4, hB]; exact setRow_heap _ _ _ _ _ _ (heap_alloc_new _ _))
  have HX4 := keepH (heap_below HX3.out B4)
  have HB4 := keepH (below_chain HB3.out B4)
  have HT4 := keepH (HT3.out.on B4)
  have HP4 := keepH (HP3.out.on B4)
  have HTQ4 := keepH (HTQ.out.on B4)
  have HPQ4 := keepH (HPQ.out.on B4)
  have HL4 := keepH (HLV.out w4 HB4.out)
  clear hw4 hB B4 HX3 HB3 HT3 HP3 HTQ HPQ HLV
  go_wp2_with fail
  refine HL4.out.mono ?_
  rintro e w5 ⟨rfl, B5⟩
  have HS5 := keepH (HSM.out tq td pq pd w5 (HT4.out.on B5) (HP4.out.on B5) (HTQ4.out.on B5) (HPQ4.out.on B5))
  have HX5 := keepH (heap_below HX4.out B5)
  have HY5 := keepH (heap_below HY4.out B5)
  have HB5 := keepH (below_chain HB4.out B5)
  have x0 : w5.cell? ⟨A, 0, none⟩ = _ := cell_of HX5.out 0
  have x1 : w5.cell? ⟨A, 1, none⟩ = _ := cell_of HX5.out 1
  have x2 : w5.cell? ⟨A, 2, none⟩ = _ := cell_of HX5.out 2
  have x3 : w5.cell? ⟨A, 3, none⟩ = _ := cell_of HX5.out 3
  have x4 : w5.cell? ⟨A, 4, none⟩ = _ := cell_of HX5.out 4
  have x5 : w5.cell? ⟨A, 5, none⟩ = _ := cell_of HX5.out 5
  have y0 : w5.cell? ⟨B, 0, none⟩ = _ := cell_of HY5.out 0
  have y1 : w5.cell? ⟨B, 1, none⟩ = _ := cell_of HY5.out 1
  have y2 : w5.cell? ⟨B, 2, none⟩ = _ := cell_of HY5.out 2
  have y3 : w5.cell? ⟨B, 3, none⟩ = _ := cell_of HY5.out 3
  have y4 : w5.cell? ⟨B, 4, none⟩ = _ := cell_of HY5.out 4
  have y5 : w5.cell? ⟨B, 5, none⟩ = _ := cell_of HY5.out 5
  clear B5 HX4 HY4 HB4 HT4 HP4 HTQ4 HPQ4 HL4 HSM
  go_wp2_with fail
  refine HS5.out.mono ?_
  rintro e w6 ⟨rfl, B6⟩
  have HB6 := keepH (below_chain HB5.out B6)
  clear B6 x0 x1 x2 x3 x4 x5 y0 y1 y2 y3 y4 y5
  go_wp2_with fail
  go_ret
  exact ⟨rfl, HB6.out⟩
end Go.Proofs.YtmmaniolaljjlaaGreatDoor
/- The pairs of an answer as a line, by the program. (mkSdd.py) -/
namespace Go.Proofs.YtmmaniolaljjlaaGreatDoor
open Go.RowKit Go.Shelf Go.Maps
set_option linter.unusedVariables false

def PRd (W : World) (p : Option Addr) (l : List (Nat × Nat)) : Prop :=
  l = [] ∨ ∃ bk off, p = some ⟨bk, off, none⟩ ∧ bk < W.heap.size ∧ ∀ (i x y : Nat), l[i]? = some (x, y) → W.cell? ⟨bk, off + i * 2, none⟩ = some (.int .u64 (x : Int)) ∧ W.cell? ⟨bk, off + i * 2 + 1, none⟩ = some (.int .u64 (y : Int))
theorem PRd.get {W : World} {p : Option Addr} {l : List (Nat × Nat)} (h : PRd W p l) (i x y : Nat) (hx : l[i]? = some (x, y)) : ∃ bk off, p = some ⟨bk, off, none⟩ ∧ bk < W.heap.size ∧ W.cell? ⟨bk, off + i * 2, none⟩ = some (.int .u64 (x : Int)) ∧ W.cell? ⟨bk, off + i * 2 + 1, none⟩ = some (.int .u64 (y : Int)) := by
  rcases h with rfl | ⟨bk, off, rfl, hb, h⟩
  · simp at hx
  · exact ⟨bk, off, rfl, hb, h i x y hx⟩
theorem PRd.on {W X : World} {p : Option Addr} {l : List (Nat × Nat)} (h : PRd W p l) (hb : Below W.heap.size W X) : PRd X p l := by
  rcases h with rfl | ⟨bk, off, rfl, hl, h⟩
  · exact .inl rfl
  · exact .inr ⟨bk, off, rfl, Nat.lt_of_lt_of_le hl hb.size, fun i x y hx => ⟨cell_below (h i x y hx).1 hb, cell_below (h i x y hx).2 hb⟩⟩
end Go.Proofs.YtmmaniolaljjlaaGreatDoor
/- From what the rows list of package-level variables to the tables that the walks read. -/
namespace Go.Proofs.YtmmaniolaljjlaaGreatDoor
open Go.ChangeShapes Go.WideShapes Go.ChangeAt Go.WideMaps Go.WideElems Go.RowKit Go.Joins Go.Deep
set_option linter.unusedVariables false

theorem own : ownKnob Tryz.prog.godebug = none := by kernel_rfl
theorem laidOut : laidOutB Tryz.prog = true := by kernel_rfl
theorem gES : Tryz.prog.globalNamed "strconv.ErrSyntax" = some 3 := by kernel_rfl
theorem tES : (Tryz.prog.globals[3]?).map (·.type) = some 81 := by kernel_rfl
theorem gER : Tryz.prog.globalNamed "strconv.ErrRange" = some 4 := by kernel_rfl
theorem tER : (Tryz.prog.globals[4]?).map (·.type) = some 81 := by kernel_rfl
theorem gP10 : Tryz.prog.globalNamed "internal/strconv.uint64pow10" = some 2 := by kernel_rfl
theorem tP10 : (Tryz.prog.globals[2]?).map (·.type) = some 213 := by kernel_rfl
theorem tWd : (Tryz.prog.globals[0]?).map (·.type) = some 119 := by kernel_rfl
theorem cells9 : Tryz.prog.cellsOf 9 = 1 := by kernel_rfl
theorem cellsU : Tryz.prog.cellsOf 23 = 1 := by kernel_rfl
theorem cellsA : Tryz.prog.cellsOf 213 = 20 := by kernel_rfl
theorem cellsW : Tryz.prog.cellsOf 119 = 11 := by kernel_rfl
theorem cellsE : Tryz.prog.cellsOf 244 = 1 := by kernel_rfl
theorem star : "*" ++ "errors.errorString" = "*errors.errorString" := by decide
theorem rowErr (u : TypeId) (h : Tryz.prog.typeName? 3 u = some "*errors.errorString") : u = 242 :=
  typeName_ptr_named (nm := "errors.errorString") (by rw [star]; kernel_rfl) (by kernel_rfl) (by decide) u (by rw [star]; exact h)
/-- an array of texts that reads as the table holds the table's texts -/
theorem cells_of_strs {H : Type} {enc : TypeId × Value → H} {P : Program} {w : World} {base : Nat} {sp : Nat → Bool} {held : Bool} {fuel : Nat} {t e : TypeId} {n : Nat} {cs : List Value} {zs : List (List UInt8)} {p : List MemPlace}
    (ht : P.underlying t = some (.array n e)) (he : P.underlying e = some .string) (hce : P.cellsOf e = 1) (hct : P.cellsOf t = n)
    (h : DataW.trod enc P w base sp held fuel t cs = some (.agg (zs.map fun z => .lit (.string z)), p)) : cs = zs.map fun z => Value.string (mkS z) := by
  cases fuel with
  | zero => simp [DataW.trod] at h
  | succ fuel =>
    simp only [DataW.trod, ht, hce, hct, Nat.mul_one] at h
    split at h
    · rename_i hl
      obtain ⟨xs, hm, hx⟩ := Option.map_eq_some_iff.1 h
      have hxs : xs.map (·.1) = zs.map fun z => (DataW.lit (.string z) : DataW H) := by
        have := congrArg Prod.fst hx
        simpa using this
      have hxl : xs.length = n := by simpa using Lib.mapM_length hm
      have hzl : zs.length = n := by
        have := congrArg List.length hxs
        simp at this
        omega
      apply List.ext_getElem?
      intro i
      by_cases hi : i < n
      · obtain ⟨b, hb, hf⟩ := Lib.mapM_at hm i i (by simp [hi])
        obtain ⟨s, hc, rfl, _⟩ := DataW.trod_string he hf
        have h1 : cs[i]? = some (.string s) := by
          have := congrArg (·[0]?) hc
          simpa [List.getElem?_take, List.getElem?_drop] using this
        have h2 : (xs.map (·.1))[i]? = some (DataW.lit (.string s.data.toList) : DataW H) := by simp [hb]
        rw [hxs] at h2
        simp only [List.getElem?_map, Option.map_eq_some_iff, DataW.lit.injEq, Lit.string.injEq] at h2
        obtain ⟨z', hz', e2⟩ := h2
        rw [h1, List.getElem?_map, hz', e2]
        simp [mkS_data]
      · rw [List.getElem?_eq_none (by omega), List.getElem?_eq_none (by simp; omega)]
    · cases h
theorem strsIs_of_head {P : Program} {W : World} {name : String} {zs : List (List UInt8)} {rest : List (String × DataW Unit)} {g : Nat} {t e : TypeId} {n : Nat}
    (hg : P.globalNamed name = some g) (hty : (P.globals[g]?).map (·.type) = some t) (ht : P.underlying t = some (.array n e)) (he : P.underlying e = some .string) (hce : P.cellsOf e = 1) (hct : P.cellsOf t = n)
    (h : laidMet P ((name, .agg (zs.map fun z => .lit (.string z))) :: rest) W) : W.var? P name = some (zs.map fun z => Value.string (mkS z)).toArray := by
  obtain ⟨ps, ⟨g', t', cs, fuel, p, q, hg', ht', hvar, hd, _, _⟩, _⟩ := h
  obtain rfl := Option.some.inj (hg.symm.trans hg')
  obtain rfl := Option.some.inj (hty.symm.trans ht')
  rw [hvar, ← cells_of_strs ht he hce hct hd]
theorem tb_of_laid {W : World} (h : laidMetH Tryz.prog Rows.scriptOpsUptoRow.laid W) (hsh : W.ShapedOpen Tryz.prog) : Tb W ∧ Wd W := by
  rw [MakeChecks.laidMetH_plain _ _ _ (by kernel_rfl)] at h
  have h3 : laidMet Tryz.prog (("internal/strconv.uint64pow10", Lib.tabData .u64 Lib.pow10Tab) :: _) W := h.tail.tail
  have hT := Lib.tabIs_of_head gP10 tP10 Tryz.underlying213 Tryz.underlying23 cellsU cellsA h3
  obtain ⟨a1, s1, hER, -, -, -⟩ := laid_sentinel h.tail.tail.tail.tail gER tER Tryz.underlying81 rowErr Tryz.underlying242 Tryz.underlying244 rfl rfl Tryz.underlying9 cellsE cells9
  obtain ⟨a0, s0, hES, -, -, -⟩ := laid_sentinel h.tail.tail.tail.tail.tail gES tES Tryz.underlying81 rowErr Tryz.underlying242 Tryz.underlying244 rfl rfl Tryz.underlying9 cellsE cells9
  have h6 : laidMet Tryz.prog (("shutter/script.words", .agg (opWs.map fun z => .lit (.string z))) :: _) W := h.tail.tail.tail.tail.tail.tail
  exact ⟨⟨hT, ⟨_, _, hES⟩, ⟨_, _, hER⟩, Tryz.lays146.s1_3 W hsh⟩, strsIs_of_head gWd tWd Tryz.underlying119 Tryz.underlying9 cells9 cellsW h6⟩
end Go.Proofs.YtmmaniolaljjlaaGreatDoor
