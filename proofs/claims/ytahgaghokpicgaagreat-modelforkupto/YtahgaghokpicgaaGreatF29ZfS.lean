/- One operation, one answer, looked at again. -/
import Derived.Test.YtahgaghokpicgaaGreatF28ZeS
namespace Go.Proofs.YtahgaghokpicgaaGreat
open Go.RowKit
set_option linter.unusedVariables false
set_option maxHeartbeats 16000000
set_option maxRecDepth 100000 in
theorem sames_op {kd r6 r7 : Int} {k v od hk lo hi : Nat} {r5 : Bool} {ks : List Nat} {kp : Option Addr} {kc : Nat} (w6 : (Lit.int .i64 r6).wf = true) (w7 : (Lit.int .i64 r7).wf = true) {W : World} {g gk gi : Nat} (hA : ∀ (j : Nat) (u : Value), ([.int .u8 kd, .int .u64 k, .int .u64 v, .int .u64 od, .int .u64 hk, .bool r5, .int .i64 r6, .int .i64 r7, .slice (some ⟨gk, 0, none⟩) ks.length (ks.length + 9), .int .u64 lo, .int .u64 hi] : List Value)[j]? = some u → W.cell? ⟨g, j, none⟩ = some u) (hB : ∀ (j : Nat) (u : Value), ([.int .u8 kd, .int .u64 k, .int .u64 v, .int .u64 od, .int .u64 hk, .bool r5, .int .i64 r6, .int .i64 r7, .slice kp ks.length kc, .int .u64 lo, .int .u64 hi] : List Value)[j]? = some u → W.cell? ⟨gi, j, none⟩ = some u) (hH : Handed W gk ks.length (fun j => ks.getD j 0)) (hgk : gk < W.heap.size) (hK : KeysAt W kp ks) (hn : ks.length ≤ 17592186043904) :
    Calls Tryz.prog 81 #[.slice (some ⟨g, 0, none⟩) 1 10, .slice (some ⟨gi, 0, none⟩) 1 1] W fun e W' => e = .returned (.bool true) ∧ Chg (fun _ => False) W W' := by
 have HS : ∀ w', Chg (fun _ => False) W w' → Hid (w'.cell? ⟨g, 0, none⟩ = some (.int .u8 kd) ∧ w'.cell? ⟨g, 1, none⟩ = some (.int .u64 k) ∧ w'.cell? ⟨g, 2, none⟩ = some (.int .u64 v) ∧ w'.cell? ⟨g, 3, none⟩ = some (.int .u64 od) ∧ w'.cell? ⟨g, 4, none⟩ = some (.int .u64 hk) ∧ w'.cell? ⟨g, 5, none⟩ = some (.bool r5) ∧ w'.cell? ⟨g, 6, none⟩ = some (.int .i64 r6) ∧ w'.cell? ⟨g, 7, none⟩ = some (.int .i64 r7) ∧ w'.cell? ⟨g, 8, none⟩ = some (.slice (some ⟨gk, 0, none⟩) ks.length (ks.length + 9)) ∧ w'.cell? ⟨g, 9, none⟩ = some (.int .u64 lo) ∧ w'.cell? ⟨g, 10, none⟩ = some (.int .u64 hi) ∧ w'.cell? ⟨gi, 0, none⟩ = some (.int .u8 kd) ∧ w'.cell? ⟨gi, 1, none⟩ = some (.int .u64 k) ∧ w'.cell? ⟨gi, 2, none⟩ = some (.int .u64 v) ∧ w'.cell? ⟨gi, 3, none⟩ = some (.int .u64 od) ∧ w'.cell? ⟨gi, 4, none⟩ = some (.int .u64 hk) ∧ w'.cell? ⟨gi, 5, none⟩ = some (.bool r5) ∧ w'.cell? ⟨gi, 6, none⟩ = some (.int .i64 r6) ∧ w'.cell? ⟨gi, 7, none⟩ = some (.int .i64 r7) ∧ w'.cell? ⟨gi, 8, none⟩ = some (.slice kp ks.length kc) ∧ w'.cell? ⟨gi, 9, none⟩ = some (.int .u64 lo) ∧ w'.cell? ⟨gi, 10, none⟩ = some (.int .u64 hi)) := fun w' cw => ⟨cell_chg cw (hA 0 _ rfl) (fun x => x), cell_chg cw (hA 1 _ rfl) (fun x => x), cell_chg cw (hA 2 _ rfl) (fun x => x), cell_chg cw (hA 3 _ rfl) (fun x => x), cell_chg cw (hA 4 _ rfl) (fun x => x), cell_chg cw (hA 5 _ rfl) (fun x => x), cell_chg cw (hA 6 _ rfl) (fun x => x), cell_chg cw (hA 7 _ rfl) (fun x => x), cell_chg cw (hA 8 _ rfl) (fun x => x), cell_chg cw (hA 9 _ rfl) (fun x => x), cell_chg cw (hA 10 _ rfl) (fun x => x), cell_chg cw (hB 0 _ rfl) (fun x => x), cell_chg cw (hB 1 _ rfl) (fun x => x), cell_chg cw (hB 2 _ rfl) (fun x => x), cell_chg cw (hB 3 _ rfl) (fun x => x), cell_chg cw (hB 4 _ rfl) (fun x => x), cell_chg cw (hB 5 _ rfl) (fun x => x), cell_chg cw (hB 6 _ rfl) (fun x => x), cell_chg cw (hB 7 _ rfl) (fun x => x), cell_chg cw (hB 8 _ rfl) (fun x => x), cell_chg cw (hB 9 _ rfl) (fun x => x), cell_chg cw (hB 10 _ rfl) (fun x => x)⟩
 have HD : ∀ w, Chg (fun _ => False) W w → Hid (Calls Tryz.prog 94 #[.agg #[.int .u8 kd, .int .u64 k, .int .u64 v, .int .u64 od, .int .u64 hk, .bool r5, .int .i64 r6, .int .i64 r7, .slice (some ⟨gk, 0, none⟩) ks.length (ks.length + 9), .int .u64 lo, .int .u64 hi], .agg #[.int .u8 kd, .int .u64 k, .int .u64 v, .int .u64 od, .int .u64 hk, .bool r5, .int .i64 r6, .int .i64 r7, .slice kp ks.length kc, .int .u64 lo, .int .u64 hi]] w fun e w' => e = .returned (.bool true) ∧ Chg (fun _ => False) W w') := fun w cw => (same_op w6 w7 (Handed.keys (hH.chg cw (fun x => x)) (Nat.lt_of_lt_of_le hgk cw.size) hK.small) (hK.chg cw (fun _ _ _ x => x)) (Nat.le_trans hn (by omega))).mono (by
  rintro e w' ⟨rfl, c⟩
  exact ⟨rfl, cw.trans c (fun _ _ x => x) (fun _ _ x => x)⟩)
 have CR : Chg (fun _ => False) W W := Chg.refl _ _
 have CRd : Chg (fun _ => False) W W.drew := CR.drew
 clear hA hB hH hK hgk
 go_enter Tryz.func81, Tryz.ntmps81
 go_wp2_with fail
 refine wp_loop_rounds 2 ?_
 rw [rounds_succ]
 go_wp2_with fail
 go_region_held3 (fun w' => w'.cell? ⟨g, 0, none⟩ = some (.int .u8 kd) ∧ w'.cell? ⟨g, 1, none⟩ = some (.int .u64 k) ∧ w'.cell? ⟨g, 2, none⟩ = some (.int .u64 v) ∧ w'.cell? ⟨g, 3, none⟩ = some (.int .u64 od) ∧ w'.cell? ⟨g, 4, none⟩ = some (.int .u64 hk) ∧ w'.cell? ⟨g, 5, none⟩ = some (.bool r5) ∧ w'.cell? ⟨g, 6, none⟩ = some (.int .i64 r6) ∧ w'.cell? ⟨g, 7, none⟩ = some (.int .i64 r7) ∧ w'.cell? ⟨g, 8, none⟩ = some (.slice (some ⟨gk, 0, none⟩) ks.length (ks.length + 9)) ∧ w'.cell? ⟨g, 9, none⟩ = some (.int .u64 lo) ∧ w'.cell? ⟨g, 10, none⟩ = some (.int .u64 hi) ∧ w'.cell? ⟨gi, 0, none⟩ = some (.int .u8 kd) ∧ w'.cell? ⟨gi, 1, none⟩ = some (.int .u64 k) ∧ w'.cell? ⟨gi, 2, none⟩ = some (.int .u64 v) ∧ w'.cell? ⟨gi, 3, none⟩ = some (.int .u64 od) ∧ w'.cell? ⟨gi, 4, none⟩ = some (.int .u64 hk) ∧ w'.cell? ⟨gi, 5, none⟩ = some (.bool r5) ∧ w'.cell? ⟨gi, 6, none⟩ = some (.int .i64 r6) ∧ w'.cell? ⟨gi, 7, none⟩ = some (.int .i64 r7) ∧ w'.cell? ⟨gi, 8, none⟩ = some (.slice kp ks.length kc) ∧ w'.cell? ⟨gi, 9, none⟩ = some (.int .u64 lo) ∧ w'.cell? ⟨gi, 10, none⟩ = some (.int .u64 hi)) (first | exact (HS _ (by assumption)).out)
  (first | (go_at_call 94; refine (HD _ (by assumption)).out.mono ?_; rintro e z ⟨rfl, hz⟩))
 all_goals (
  go_wp2_with fail
  rw [rounds_succ]
  go_wp2_with fail
  go_ret
  exact ⟨by simp, hz⟩)
set_option maxRecDepth 100000 in
theorem kept_op {kd r6 r7 : Int} {k v od hk lo hi : Nat} {r5 : Bool} {ks : List Nat} {kp : Option Addr} {kc : Nat} (w6 : (Lit.int .i64 r6).wf = true) (w7 : (Lit.int .i64 r7).wf = true) {W : World} {g gk gi : Nat} (hA : ∀ (j : Nat) (u : Value), ([.int .u8 kd, .int .u64 k, .int .u64 v, .int .u64 od, .int .u64 hk, .bool r5, .int .i64 r6, .int .i64 r7, .slice (some ⟨gk, 0, none⟩) ks.length (ks.length + 9), .int .u64 lo, .int .u64 hi] : List Value)[j]? = some u → W.cell? ⟨g, j, none⟩ = some u) (hB : ∀ (j : Nat) (u : Value), ([.int .u8 kd, .int .u64 k, .int .u64 v, .int .u64 od, .int .u64 hk, .bool r5, .int .i64 r6, .int .i64 r7, .slice kp ks.length kc, .int .u64 lo, .int .u64 hi] : List Value)[j]? = some u → W.cell? ⟨gi, j, none⟩ = some u) (hM : ∀ j, j < 9 → W.cell? ⟨g, (1 + j) * 11 + 1, none⟩ = some (.int .u64 (2305843009213693952 + (j : Int)))) (hH : Handed W gk ks.length (fun j => ks.getD j 0)) (hgk : gk < W.heap.size) (hK : KeysAt W kp ks) (hn : ks.length ≤ 17592186043904) :
    Calls Tryz.prog 30 #[.slice (some ⟨g, 0, none⟩) 1 10, .slice (some ⟨gi, 0, none⟩) 1 1] W fun e W' => e = .returned (.bool true) ∧ Chg (fun _ => False) W W' := by
 have HS0 := keepH (sames_op w6 w7 hA hB hH hgk hK hn)
 have HS : ∀ w', Chg (fun _ => False) W w' → Hid (w'.cell? ⟨g, 8, none⟩ = some (.slice (some ⟨gk, 0, none⟩) ks.length (ks.length + 9)) ∧ w'.cell? ⟨gi, 8, none⟩ = some (.slice kp ks.length kc)) := fun w' cw => ⟨cell_chg cw (hA 8 _ rfl) (fun x => x), cell_chg cw (hB 8 _ rfl) (fun x => x)⟩
 have HD : ∀ w, Chg (fun _ => False) W w → Hid (Calls Tryz.prog 82 #[.slice (some ⟨gk, 0, none⟩) ks.length (ks.length + 9), .slice kp ks.length kc] w fun e w' => e = .returned (.bool true) ∧ Chg (fun _ => False) W w') := fun w cw => (kept_keys gk kp kc ks w (hH.chg cw (fun x => x)) (Nat.lt_of_lt_of_le hgk cw.size) (hK.chg cw (fun _ _ _ x => x)) hn).mono (by
  rintro e w' ⟨rfl, c⟩
  exact ⟨rfl, cw.trans c (fun _ _ x => x) (fun _ _ x => x)⟩)
 have HM := keepH hM
 clear hA hB hH hK hgk hM
 go_enter Tryz.func30, Tryz.ntmps30
 go_wp2_with fail
 refine HS0.out.mono ?_
 rintro e w1 ⟨rfl, C1⟩
 have C1d : Chg (fun _ => False) W w1.drew := C1.drew
 go_wp2_with fail
 refine wp_loop_rounds 2 ?_
 rw [rounds_succ]
 go_wp2_with fail
 go_region_held3 (fun w' => w'.cell? ⟨g, 8, none⟩ = some (.slice (some ⟨gk, 0, none⟩) ks.length (ks.length + 9)) ∧ w'.cell? ⟨gi, 8, none⟩ = some (.slice kp ks.length kc)) (first | exact (HS _ (by assumption)).out)
  (first | (go_at_call 82; refine (HD _ (by assumption)).out.mono ?_; rintro e z ⟨rfl, hz⟩))
 all_goals (
  have H1 : Hid (∀ j, j < 9 → z.cell? ⟨g, (1 + j) * 11 + 1, none⟩ = some (.int .u64 (2305843009213693952 + (j : Int)))) := fun j hj => cell_chg hz (HM.out j hj) (fun x => x)
  have HC := keepH hz
  clear hz C1 C1d
  go_wp2_with fail
  rw [rounds_succ]
  go_wp2_with fail
  go_loopw [7] (fun i wr => ∃ m : Nat, m ≤ 9 ∧ i = .int .i64 (1 + (m : Int)) ∧ wr = z) (fun i _ => 10 - (intOf i).toNat)
  case atStart => exact ⟨0, by omega, by simp, rfl⟩
  case round =>
   obtain ⟨m, hm, rfl, hw⟩ := hrel
   subst hw
   by_cases hlt : m < 9
   ·have x1 := H1.out m hlt
    have e0 : (2305843009213693952 : Int) + (1 + (m : Int)) - 1 = 2305843009213693952 + (m : Int) := by omega
    have i1 : (1 : Int) + (m : Int) < 10 := by omega
    go_wp2_with fail
    go_roundw
    case rel => exact ⟨m + 1, by omega, by go_num, (by first | rfl | trivial)⟩
    case measure => simp [intOf]; omega
   ·obtain rfl : m = 9 := by omega
    go_wp2_with fail
    go_ret
    exact ⟨by simp, HC.out⟩)
set_option maxRecDepth 100000 in
theorem sames_ans {er : Int} {fo dn : Bool} {va ah co : Nat} {l : List (Nat × Nat)} {kp : Option Addr} {kc : Nat} {W : World} {g gk gi : Nat} (hA : ∀ (j : Nat) (u : Value), ([.int .i64 er, .bool fo, .int .u64 va, .bool dn, .int .u64 ah, .slice (some ⟨gk, 0, none⟩) l.length (l.length + 9), .int .u64 co] : List Value)[j]? = some u → W.cell? ⟨g, j, none⟩ = some u) (hB : ∀ (j : Nat) (u : Value), ([.int .i64 er, .bool fo, .int .u64 va, .bool dn, .int .u64 ah, .slice kp l.length kc, .int .u64 co] : List Value)[j]? = some u → W.cell? ⟨gi, j, none⟩ = some u) (hH : HandedP W gk l) (hgk : gk < W.heap.size) (hK : PairsAt W kp l) (hn : l.length ≤ 8796093021952) :
    Calls Tryz.prog 79 #[.slice (some ⟨g, 0, none⟩) 1 10, .slice (some ⟨gi, 0, none⟩) 1 1] W fun e W' => e = .returned (.bool true) ∧ Chg (fun _ => False) W W' := by
 have HS : ∀ w', Chg (fun _ => False) W w' → Hid (w'.cell? ⟨g, 0, none⟩ = some (.int .i64 er) ∧ w'.cell? ⟨g, 1, none⟩ = some (.bool fo) ∧ w'.cell? ⟨g, 2, none⟩ = some (.int .u64 va) ∧ w'.cell? ⟨g, 3, none⟩ = some (.bool dn) ∧ w'.cell? ⟨g, 4, none⟩ = some (.int .u64 ah) ∧ w'.cell? ⟨g, 5, none⟩ = some (.slice (some ⟨gk, 0, none⟩) l.length (l.length + 9)) ∧ w'.cell? ⟨g, 6, none⟩ = some (.int .u64 co) ∧ w'.cell? ⟨gi, 0, none⟩ = some (.int .i64 er) ∧ w'.cell? ⟨gi, 1, none⟩ = some (.bool fo) ∧ w'.cell? ⟨gi, 2, none⟩ = some (.int .u64 va) ∧ w'.cell? ⟨gi, 3, none⟩ = some (.bool dn) ∧ w'.cell? ⟨gi, 4, none⟩ = some (.int .u64 ah) ∧ w'.cell? ⟨gi, 5, none⟩ = some (.slice kp l.length kc) ∧ w'.cell? ⟨gi, 6, none⟩ = some (.int .u64 co)) := fun w' cw => ⟨cell_chg cw (hA 0 _ rfl) (fun x => x), cell_chg cw (hA 1 _ rfl) (fun x => x), cell_chg cw (hA 2 _ rfl) (fun x => x), cell_chg cw (hA 3 _ rfl) (fun x => x), cell_chg cw (hA 4 _ rfl) (fun x => x), cell_chg cw (hA 5 _ rfl) (fun x => x), cell_chg cw (hA 6 _ rfl) (fun x => x), cell_chg cw (hB 0 _ rfl) (fun x => x), cell_chg cw (hB 1 _ rfl) (fun x => x), cell_chg cw (hB 2 _ rfl) (fun x => x), cell_chg cw (hB 3 _ rfl) (fun x => x), cell_chg cw (hB 4 _ rfl) (fun x => x), cell_chg cw (hB 5 _ rfl) (fun x => x), cell_chg cw (hB 6 _ rfl) (fun x => x)⟩
 have HD : ∀ w, Chg (fun _ => False) W w → Hid (Calls Tryz.prog 29 #[.agg #[.int .i64 er, .bool fo, .int .u64 va, .bool dn, .int .u64 ah, .slice (some ⟨gk, 0, none⟩) l.length (l.length + 9), .int .u64 co], .agg #[.int .i64 er, .bool fo, .int .u64 va, .bool dn, .int .u64 ah, .slice kp l.length kc, .int .u64 co]] w fun e w' => e = .returned (.bool true) ∧ Chg (fun _ => False) W w') := fun w cw => (same_ans (HandedP.pairs (hH.chg cw (fun x => x)) (Nat.lt_of_lt_of_le hgk cw.size) hK.small) (hK.chg cw) (Nat.le_trans hn (by omega))).mono (by
  rintro e w' ⟨rfl, c⟩
  exact ⟨rfl, cw.trans c (fun _ _ x => x) (fun _ _ x => x)⟩)
 have CR : Chg (fun _ => False) W W := Chg.refl _ _
 have CRd : Chg (fun _ => False) W W.drew := CR.drew
 clear hA hB hH hK hgk
 go_enter Tryz.func79, Tryz.ntmps79
 go_wp2_with fail
 refine wp_loop_rounds 2 ?_
 rw [rounds_succ]
 go_wp2_with fail
 go_region_held3 (fun w' => w'.cell? ⟨g, 0, none⟩ = some (.int .i64 er) ∧ w'.cell? ⟨g, 1, none⟩ = some (.bool fo) ∧ w'.cell? ⟨g, 2, none⟩ = some (.int .u64 va) ∧ w'.cell? ⟨g, 3, none⟩ = some (.bool dn) ∧ w'.cell? ⟨g, 4, none⟩ = some (.int .u64 ah) ∧ w'.cell? ⟨g, 5, none⟩ = some (.slice (some ⟨gk, 0, none⟩) l.length (l.length + 9)) ∧ w'.cell? ⟨g, 6, none⟩ = some (.int .u64 co) ∧ w'.cell? ⟨gi, 0, none⟩ = some (.int .i64 er) ∧ w'.cell? ⟨gi, 1, none⟩ = some (.bool fo) ∧ w'.cell? ⟨gi, 2, none⟩ = some (.int .u64 va) ∧ w'.cell? ⟨gi, 3, none⟩ = some (.bool dn) ∧ w'.cell? ⟨gi, 4, none⟩ = some (.int .u64 ah) ∧ w'.cell? ⟨gi, 5, none⟩ = some (.slice kp l.length kc) ∧ w'.cell? ⟨gi, 6, none⟩ = some (.int .u64 co)) (first | exact (HS _ (by assumption)).out)
  (first | (go_at_call 29; refine (HD _ (by assumption)).out.mono ?_; rintro e z ⟨rfl, hz⟩))
 all_goals (
  go_wp2_with fail
  rw [rounds_succ]
  go_wp2_with fail
  go_ret
  exact ⟨by simp, hz⟩)
set_option maxRecDepth 100000 in
theorem kept_ans {er : Int} {fo dn : Bool} {va ah co : Nat} {l : List (Nat × Nat)} {kp : Option Addr} {kc : Nat} {W : World} {g gk gi : Nat} (hA : ∀ (j : Nat) (u : Value), ([.int .i64 er, .bool fo, .int .u64 va, .bool dn, .int .u64 ah, .slice (some ⟨gk, 0, none⟩) l.length (l.length + 9), .int .u64 co] : List Value)[j]? = some u → W.cell? ⟨g, j, none⟩ = some u) (hB : ∀ (j : Nat) (u : Value), ([.int .i64 er, .bool fo, .int .u64 va, .bool dn, .int .u64 ah, .slice kp l.length kc, .int .u64 co] : List Value)[j]? = some u → W.cell? ⟨gi, j, none⟩ = some u) (hM : ∀ j, j < 9 → W.cell? ⟨g, (1 + j) * 7 + 2, none⟩ = some (.int .u64 (2305843009213693952 + (j : Int)))) (hH : HandedP W gk l) (hgk : gk < W.heap.size) (hK : PairsAt W kp l) (hn : l.length ≤ 8796093021952) :
    Calls Tryz.prog 28 #[.slice (some ⟨g, 0, none⟩) 1 10, .slice (some ⟨gi, 0, none⟩) 1 1] W fun e W' => e = .returned (.bool true) ∧ Chg (fun _ => False) W W' := by
 have HS0 := keepH (sames_ans hA hB hH hgk hK hn)
 have HS : ∀ w', Chg (fun _ => False) W w' → Hid (w'.cell? ⟨g, 5, none⟩ = some (.slice (some ⟨gk, 0, none⟩) l.length (l.length + 9)) ∧ w'.cell? ⟨gi, 5, none⟩ = some (.slice kp l.length kc)) := fun w' cw => ⟨cell_chg cw (hA 5 _ rfl) (fun x => x), cell_chg cw (hB 5 _ rfl) (fun x => x)⟩
 have HD : ∀ w, Chg (fun _ => False) W w → Hid (Calls Tryz.prog 80 #[.slice (some ⟨gk, 0, none⟩) l.length (l.length + 9), .slice kp l.length kc] w fun e w' => e = .returned (.bool true) ∧ Chg (fun _ => False) W w') := fun w cw => (kept_pairs gk kp kc l w (hH.chg cw (fun x => x)) (Nat.lt_of_lt_of_le hgk cw.size) (hK.chg cw) hn).mono (by
  rintro e w' ⟨rfl, c⟩
  exact ⟨rfl, cw.trans c (fun _ _ x => x) (fun _ _ x => x)⟩)
 have HM := keepH hM
 clear hA hB hH hK hgk hM
 go_enter Tryz.func28, Tryz.ntmps28
 go_wp2_with fail
 refine HS0.out.mono ?_
 rintro e w1 ⟨rfl, C1⟩
 have C1d : Chg (fun _ => False) W w1.drew := C1.drew
 go_wp2_with fail
 refine wp_loop_rounds 2 ?_
 rw [rounds_succ]
 go_wp2_with fail
 go_region_held3 (fun w' => w'.cell? ⟨g, 5, none⟩ = some (.slice (some ⟨gk, 0, none⟩) l.length (l.length + 9)) ∧ w'.cell? ⟨gi, 5, none⟩ = some (.slice kp l.length kc)) (first | exact (HS _ (by assumption)).out)
  (first | (go_at_call 80; refine (HD _ (by assumption)).out.mono ?_; rintro e z ⟨rfl, hz⟩))
 all_goals (
  have H1 : Hid (∀ j, j < 9 → z.cell? ⟨g, (1 + j) * 7 + 2, none⟩ = some (.int .u64 (2305843009213693952 + (j : Int)))) := fun j hj => cell_chg hz (HM.out j hj) (fun x => x)
  have HC := keepH hz
  clear hz C1 C1d
  go_wp2_with fail
  rw [rounds_succ]
  go_wp2_with fail
  go_loopw [7] (fun i wr => ∃ m : Nat, m ≤ 9 ∧ i = .int .i64 (1 + (m : Int)) ∧ wr = z) (fun i _ => 10 - (intOf i).toNat)
  case atStart => exact ⟨0, by omega, by simp, rfl⟩
  case round =>
   obtain ⟨m, hm, rfl, hw⟩ := hrel
   subst hw
   by_cases hlt : m < 9
   ·have x1 := H1.out m hlt
    have e0 : (2305843009213693952 : Int) + (1 + (m : Int)) - 1 = 2305843009213693952 + (m : Int) := by omega
    have i1 : (1 : Int) + (m : Int) < 10 := by omega
    go_wp2_with fail
    go_roundw
    case rel => exact ⟨m + 1, by omega, by go_num, (by first | rfl | trivial)⟩
    case measure => simp [intOf]; omega
   ·obtain rfl : m = 9 := by omega
    go_wp2_with fail
    go_ret
    exact ⟨by simp, HC.out⟩)
end Go.Proofs.YtahgaghokpicgaaGreat
