/- What must be whatever is asked of a script's lines. -/
import Derived.Test.YtmmaniolaljjlaaGreatDoorScs
namespace Go.Proofs.YtmmaniolaljjlaaGreatDoor
open Go.RowKit Go.Shelf
set_option linter.unusedVariables false

theorem u_small (n : Nat) (h : n < 1000) : isU n := by unfold isU; omega
theorem i_small (n : Int) (h : 0 ≤ n ∧ n < 1000) : isI n := ⟨by omega, by omega⟩
def relO : Opx := ⟨6, 0, 0, 0, 0, true, 0, 2, [], 0, 0⟩
theorem rel_right : rightO relO := ⟨⟨by decide, u_small _ (by decide), u_small _ (by decide), u_small _ (by decide), u_small _ (by decide), i_small _ (by decide), i_small _ (by decide), fun u hu => by simp [relO] at hu, u_small _ (by decide), u_small _ (by decide)⟩, by decide⟩
theorem rel_text : [114, 101, 108, 101, 97, 115, 101, 32, 64, 48, 46, 50] = textO relO := by decide +kernel
theorem put_text : opT 2 7 1 0 0 false 0 0 [] 0 0 = [112, 117, 116, 32, 55, 32, 49] := by decide +kernel
theorem put_fault : faultN 2 7 1 0 0 false 0 0 none 0 0 0 0 = 0 := by decide +kernel
theorem rel_ref (w : World) : (binOp .eql 25 (refV true 0 2) (refV true 0 2)).run Tryz.prog w = .ok (.bool true) w := by
  have h := ref_eql true 0 2 true 0 2 (i_small _ (by decide)) (i_small _ (by decide)) (i_small _ (by decide)) (i_small _ (by decide)) w
  simp only [binOp, go_sem]
  simp [h, Result.andThen]
set_option maxRecDepth 100000 in
set_option maxHeartbeats 4000000 in
theorem sLive_any (W : World) (hW : Wd W) (T : Tb W) : Calls Tryz.prog 11 #[] W fun e W' => e = .returned (.bool true) ∧ Below W.heap.size W W' := by
  have HP := keepH (printOp_any 2 7 1 0 0 false 0 0 none 0 0 0 [] (by decide) (u_small _ (by decide)) (u_small _ (by decide)) (u_small _ (by decide)) (u_small _ (by decide)) (u_small _ (by decide)) (u_small _ (by decide)) (i_small _ (by decide)) (i_small _ (by decide)) (fun u hu => by simp at hu) (by simp) W hW T (.inl rfl))
  have HQ := keepH (fun w (hb : Below W.heap.size W w) => parseOp_any [114, 101, 108, 101, 97, 115, 101, 32, 64, 48, 46, 50] (by decide) w (hW.on hb) (T.on hb))
  have hrr := rel_ref
  have hss : ((⟨#[112, 117, 116, 32, 55, 32, 49]⟩ : ByteArray).toList == (⟨#[112, 117, 116, 32, 55, 32, 49]⟩ : ByteArray).toList) = true := by simp
  clear hW T
  go_enter Tryz.func11, Tryz.ntmps11
  go_wp2_with fail
  refine HP.out.mono ?_
  rintro e w1 ⟨E, hE, rfl, B1⟩
  have hE0 : E = 0 := hE.trans put_fault
  subst hE0
  rw [if_pos rfl, put_text]
  have HB1 := keepH B1
  have HQ1 := keepH (HQ.out w1 B1)
  clear hE B1
  go_wp2_with fail
  refine HQ1.out.mono ?_
  rintro e w2 ⟨ok, o, kp, kc, rfl, hpq, hku, hzo, B2⟩
  obtain ⟨rfl, rfl⟩ := hpq.2 relO rel_right rel_text
  have HB2 := keepH (below_chain HB1.out B2)
  clear hpq hku hzo B2
  simp only [opV, relO]
  obtain ⟨w4, hw4⟩ : ∃ w4, w4 = w2.alloc (.cells (opR 6 0 0 0 0 true 0 2 (.slice kp 0 kc) 0 0) 28) := ⟨_, rfl⟩
  obtain ⟨Q, hQ⟩ : ∃ Q, Q = w2.heap.size := ⟨_, rfl⟩
  have B4 : Below w2.heap.size w2 w4 := by rw [hw4]; exact below_alloc _ _
  have X4 : w4.heap[Q]? = some (.cells (opR 6 0 0 0 0 true 0 2 (.slice kp 0 kc) 0 0) 28 (0, 0)) := by rw [hw4, hQ]; exact heap_alloc_new _ _
  have HB4 := keepH (below_chain HB2.out B4)
  have HW4 := keepH hw4
  have HQQ := keepH hQ
  have d0 : w4.cell? ⟨Q, 0, none⟩ = _ := cell_of X4 0
  have d5 : w4.cell? ⟨Q, 5, none⟩ = _ := cell_of X4 5
  have d6 : w4.cell? ⟨Q, 6, none⟩ = _ := cell_of X4 6
  have d7 : w4.cell? ⟨Q, 7, none⟩ = _ := cell_of X4 7
  clear hw4 hQ B4 X4
  go_upto_region 3 with fail
  rw [show w2.alloc (.cells #[.int .u8 6, .int .u64 0, .int .u64 0, .int .u64 0, .int .u64 0, .bool true, .int .i64 0, .int .i64 2, .slice kp 0 kc, .int .u64 0, .int .u64 0] 28) = w4 from HW4.out.symm, ← HQQ.out]
  go_wp2_with fail
  go_ret
  exact ⟨by simp, HB4.out⟩
end Go.Proofs.YtmmaniolaljjlaaGreatDoor
