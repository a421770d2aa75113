/- PrintOp, by the program. (mkSci.py) -/
import Derived.Test.YtmmaniolaljjlaaGreatDoorSch
namespace Go.Proofs.YtmmaniolaljjlaaGreatDoor
open Go.RowKit Go.Shelf
set_option linter.unusedVariables false

theorem fault_has {k key val old hnd : Nat} {set : Bool} {rt ri : Int} {kp : Option Addr} {n kc lo hi : Nat} (h : faultN k key val old hnd set rt ri kp n kc lo hi = 0) : hasK k = true := by
  unfold faultN at h
  cases e : hasK k with
  | true => rfl
  | false => rw [if_pos e] at h; simp at h
set_option maxRecDepth 100000 in
set_option maxHeartbeats 4000000 in
theorem printOp_any (k key val old hnd : Nat) (set : Bool) (rt ri : Int) (kp : Option Addr) (kc lo hi : Nat) (keys : List Nat) (hk : k < 256) (h1 : isU key) (h2 : isU val) (h3 : isU old) (h4 : isU hnd) (h5 : isU lo) (h6 : isU hi) (ha : isI rt) (hb : isI ri) (hks : ∀ u ∈ keys, isU u) (hkl : keys.length ≤ 10000000) (W : World) (hW : Wd W) (T : Tb W) (hK : KRd W kp keys) :
    Calls Tryz.prog 7 #[.agg (opR k key val old hnd set rt ri (.slice kp keys.length kc) lo hi)] W fun e W' => ∃ E : Nat, E = faultN k key val old hnd set rt ri kp keys.length kc lo hi ∧ e = .returned (.tuple #[.string (mkS (if E = 0 then opT k key val old hnd set rt ri keys lo hi else [])), .int .i64 (E : Int)]) ∧ Below W.heap.size W W' := by
  have HFA := keepH (fun b w (hV : IsVoc w b) (hbe : Below W.heap.size W w) => fault_any b k key val old hnd set rt ri kp keys.length kc lo hi hk h1 h2 h3 h4 h5 h6 ha hb w hV (hW.on hbe))
  have HPR := keepH (fun b w (hh : hasK k = true) (hV : IsVoc w b) (hbe : Below W.heap.size W w) => print_any b k key val old hnd set rt ri kp kc lo hi keys hk hh h1 h2 h3 h4 h5 h6 ha hb hks hkl w hV (hW.on hbe) (T.on hbe) (hK.on hbe))
  obtain ⟨n, hn⟩ : ∃ n, n = keys.length := ⟨_, rfl⟩
  rw [← hn] at HFA HPR ⊢
  obtain ⟨w1, hw1⟩ : ∃ w1, w1 = W.alloc (.cells (opR k key val old hnd set rt ri (.slice kp n kc) lo hi) 28) := ⟨_, rfl⟩
  obtain ⟨P, hP⟩ : ∃ P, P = W.heap.size := ⟨_, rfl⟩
  have B1 : Below W.heap.size W w1 := by rw [hw1]; exact below_alloc _ _
  have X1 : w1.heap[P]? = some (.cells (opR k key val old hnd set rt ri (.slice kp n kc) lo hi) 28 (0, 0)) := by rw [hw1, hP]; exact heap_alloc_new _ _
  have HW1 := keepH hw1
  have HP := keepH hP
  have HB1 := keepH B1
  have HX1 := keepH X1
  obtain ⟨E, hE⟩ : ∃ E, E = faultN k key val old hnd set rt ri kp n kc lo hi := ⟨_, rfl⟩
  have HE := keepH hE
  rw [← hE] at HFA
  clear hw1 hP B1 X1 hW T hK h1 h2 h3 h4 h5 h6 ha hb hk hks hkl hn hE
  go_enter Tryz.func7, Tryz.ntmps7
  go_upto_region 1 with fail
  rw [← HW1.out, ← HP.out]
  go_wp2_with fail
  refine (voc_new w1).mono ?_
  rintro e w2 ⟨rfl, hV, B2⟩
  have HX2 := keepH (heap_below HX1.out B2)
  have HB2 := keepH (below_chain HB1.out B2)
  have HV := keepH hV
  obtain ⟨b, hbb⟩ : ∃ b, b = w1.heap.size := ⟨_, rfl⟩
  rw [← hbb] at HV ⊢
  clear hV B2 hbb
  have c0 : w2.cell? ⟨P, 0, none⟩ = _ := cell_of HX2.out 0
  have c1 : w2.cell? ⟨P, 1, none⟩ = _ := cell_of HX2.out 1
  have c2 : w2.cell? ⟨P, 2, none⟩ = _ := cell_of HX2.out 2
  have c3 : w2.cell? ⟨P, 3, none⟩ = _ := cell_of HX2.out 3
  have c4 : w2.cell? ⟨P, 4, none⟩ = _ := cell_of HX2.out 4
  have c5 : w2.cell? ⟨P, 5, none⟩ = _ := cell_of HX2.out 5
  have c6 : w2.cell? ⟨P, 6, none⟩ = _ := cell_of HX2.out 6
  have c7 : w2.cell? ⟨P, 7, none⟩ = _ := cell_of HX2.out 7
  have c8 : w2.cell? ⟨P, 8, none⟩ = _ := cell_of HX2.out 8
  have c9 : w2.cell? ⟨P, 9, none⟩ = _ := cell_of HX2.out 9
  have c10 : w2.cell? ⟨P, 10, none⟩ = _ := cell_of HX2.out 10
  go_wp2_with fail
  refine (HFA.out b w2 HV.out HB2.out).mono ?_
  rintro e w3 ⟨rfl, B3⟩
  have X3 := heap_below HX2.out B3
  have HB3 := keepH (below_chain HB2.out B3)
  have HV3 := keepH (HV.out.on B3)
  clear B3 c0 c1 c2 c3 c4 c5 c6 c7 c8 c9 c10
  by_cases h0 : E = 0
  · have hh := fault_has (HE.out.symm.trans h0)
    have HQ := keepH (HPR.out b w3 hh HV3.out HB3.out)
    subst h0
    have c0 : w3.cell? ⟨P, 0, none⟩ = _ := cell_of X3 0
    have c1 : w3.cell? ⟨P, 1, none⟩ = _ := cell_of X3 1
    have c2 : w3.cell? ⟨P, 2, none⟩ = _ := cell_of X3 2
    have c3 : w3.cell? ⟨P, 3, none⟩ = _ := cell_of X3 3
    have c4 : w3.cell? ⟨P, 4, none⟩ = _ := cell_of X3 4
    have c5 : w3.cell? ⟨P, 5, none⟩ = _ := cell_of X3 5
    have c6 : w3.cell? ⟨P, 6, none⟩ = _ := cell_of X3 6
    have c7 : w3.cell? ⟨P, 7, none⟩ = _ := cell_of X3 7
    have c8 : w3.cell? ⟨P, 8, none⟩ = _ := cell_of X3 8
    have c9 : w3.cell? ⟨P, 9, none⟩ = _ := cell_of X3 9
    have c10 : w3.cell? ⟨P, 10, none⟩ = _ := cell_of X3 10
    obtain ⟨TT, hTT⟩ : ∃ TT, TT = mkS (opT k key val old hnd set rt ri keys lo hi) := ⟨_, rfl⟩
    rw [← hTT] at HQ
    have HTT := keepH hTT
    clear X3 hh hTT
    go_wp2_with fail
    refine HQ.out.mono ?_
    rintro e w4 ⟨rfl, B4⟩
    have HB4 := keepH (below_chain HB3.out B4)
    clear B4
    go_wp2_with fail
    go_ret2
    exact ⟨0, HE.out, by rw [HTT.out]; simp, HB4.out⟩
  · have t0 : ¬ ((E : Int) = 0) := by omega
    have u0 : ((E : Int) != 0) = true := by simpa using t0
    clear X3
    go_wp2_with fail
    go_ret2
    exact ⟨E, HE.out, by rw [if_neg h0]; simp, HB3.out⟩
end Go.Proofs.YtmmaniolaljjlaaGreatDoor
