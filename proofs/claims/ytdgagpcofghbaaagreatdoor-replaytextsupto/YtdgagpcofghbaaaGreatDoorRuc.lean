/- The document's right, word, num, number; its line of a right access, by kind. (mkRuc.py) -/
import Derived.Test.YtdgagpcofghbaaaGreatDoorRub
namespace Go.Proofs.YtdgagpcofghbaaaGreatDoor
open Go.RowKit Go.Shelf
set_option linter.unusedVariables false

set_option maxRecDepth 100000 in
theorem d_right_no (th : Int) (kind ad a b got n c : Nat) (p : Option Addr) (ok : Bool) (W : World) (hk : kind = 0 ∨ 5 < kind) :
    Calls Tryz.prog 18 #[.agg (accC th kind ad a b (.slice p n c) got ok)] W fun e W' => e = .returned (.bool false) ∧ Below W.heap.size W W' := by
  have q1 : ((kind : Int) == 1) = false := by simp; omega
  have q2 : ((kind : Int) == 2) = false := by simp; omega
  have q3 : ((kind : Int) == 3) = false := by simp; omega
  have q4 : ((kind : Int) == 4) = false := by simp; omega
  have q5 : ((kind : Int) == 5) = false := by simp; omega
  have HB := keepH (two_boxes W (.cells (accC th kind ad a b (.slice p n c) got ok) 36) (.cells (accC th kind ad 0 0 (.slice none 0 0) 0 false) 36))
  clear hk
  go_enter Tryz.func18, Tryz.ntmps18
  go_wp2_with fail
  go_ret
  exact ⟨rfl, HB.out⟩
theorem right_eq1 {th : Int} {ad a b got : Nat} {vals : List Nat} {ok : Bool} : (⟨th, 1, ad, a, b, vals, got, ok⟩ : Ax) = ⟨th, 1, ad, 0, 0, [], got, false⟩ ↔ RightA ⟨th, 1, ad, a, b, vals, got, ok⟩ := by simp [RightA]
theorem right_eq2 {th : Int} {ad a b got : Nat} {vals : List Nat} {ok : Bool} : (⟨th, 2, ad, a, b, vals, got, ok⟩ : Ax) = ⟨th, 2, ad, a, 0, [], 0, false⟩ ↔ RightA ⟨th, 2, ad, a, b, vals, got, ok⟩ := by simp [RightA]
theorem right_eq3 {th : Int} {ad a b got : Nat} {vals : List Nat} {ok : Bool} : (⟨th, 3, ad, a, b, vals, got, ok⟩ : Ax) = ⟨th, 3, ad, a, b, [], 0, ok⟩ ↔ RightA ⟨th, 3, ad, a, b, vals, got, ok⟩ := by simp [RightA]
theorem right_eq4 {th : Int} {ad a b got : Nat} {vals : List Nat} {ok : Bool} : (⟨th, 4, ad, a, b, vals, got, ok⟩ : Ax) = ⟨th, 4, ad, a, 0, [], got, false⟩ ↔ RightA ⟨th, 4, ad, a, b, vals, got, ok⟩ := by simp [RightA]
theorem right_eq5 {th : Int} {ad a b got : Nat} {vals : List Nat} {ok : Bool} : (⟨th, 5, ad, a, b, vals, got, ok⟩ : Ax) = ⟨th, 5, ad, 0, 0, vals, 0, false⟩ ↔ RightA ⟨th, 5, ad, a, b, vals, got, ok⟩ := by simp [RightA]
theorem d_right (x : Ax) (p : Option Addr) (c : Nat) (W : World) (hu : URd W p x.vals) (hl : x.vals.length ≤ 1048576) :
    Calls Tryz.prog 18 #[.agg (bxA x (.slice p x.vals.length c))] W fun e W' => ∃ v, e = .returned v ∧ RightQ x v ∧ Below W.heap.size W W' := by
  obtain ⟨th, kind, ad, a, b, vals, got, ok⟩ := x
  simp only at hu hl ⊢
  by_cases k0 : kind = 0 ∨ 5 < kind
  · refine (d_right_no th kind ad a b got vals.length c p ok W k0).mono ?_
    rintro e W' ⟨rfl, hb⟩
    exact ⟨_, rfl, ⟨false, rfl, by simp only [Bool.false_eq_true, false_iff]; intro h; have := right_kind h; simp only at this; omega⟩, hb⟩
  · have hk : kind = 1 ∨ kind = 2 ∨ kind = 3 ∨ kind = 4 ∨ kind = 5 := by omega
    rcases hk with rfl | rfl | rfl | rfl | rfl
    · refine (d_right_1 th ad a b got vals.length vals rfl p c ok W hu hl).mono ?_
      rintro e W' ⟨v, rfl, ⟨r, rfl, hr⟩, hb⟩
      exact ⟨_, rfl, ⟨r, rfl, hr.trans right_eq1⟩, hb⟩
    · refine (d_right_2 th ad a b got vals.length vals rfl p c ok W hu hl).mono ?_
      rintro e W' ⟨v, rfl, ⟨r, rfl, hr⟩, hb⟩
      exact ⟨_, rfl, ⟨r, rfl, hr.trans right_eq2⟩, hb⟩
    · refine (d_right_3 th ad a b got vals.length vals rfl p c ok W hu hl).mono ?_
      rintro e W' ⟨v, rfl, ⟨r, rfl, hr⟩, hb⟩
      exact ⟨_, rfl, ⟨r, rfl, hr.trans right_eq3⟩, hb⟩
    · refine (d_right_4 th ad a b got vals.length vals rfl p c ok W hu hl).mono ?_
      rintro e W' ⟨v, rfl, ⟨r, rfl, hr⟩, hb⟩
      exact ⟨_, rfl, ⟨r, rfl, hr.trans right_eq4⟩, hb⟩
    · refine (d_right_5 th ad a b got vals.length vals rfl p c ok W hu hl).mono ?_
      rintro e W' ⟨v, rfl, ⟨r, rfl, hr⟩, hb⟩
      exact ⟨_, rfl, ⟨r, rfl, hr.trans right_eq5⟩, hb⟩

set_option maxRecDepth 100000 in
theorem d_word (k : Nat) (hk : 1 ≤ k ∧ k ≤ 5) (W : World) : Calls Tryz.prog 37 #[.int .u8 (k : Int)] W fun e W' => e = .returned (.string (mkS (wordL k))) ∧ Below W.heap.size W W' := by
  have h : k = 1 ∨ k = 2 ∨ k = 3 ∨ k = 4 ∨ k = 5 := by omega
  clear hk
  rcases h with rfl | rfl | rfl | rfl | rfl
  all_goals (
    go_enter Tryz.func37, Tryz.ntmps37
    go_wp2_with fail
    go_ret
    exact ⟨rfl, below_alloc _ _⟩)
set_option maxRecDepth 100000 in
theorem d_num (u : Nat) (h : isU u) (w : World) (T : Tb w) : Calls Tryz.prog 38 #[.int .u64 (u : Int)] w fun e w' => e = .returned (.string (mkS (Lib.decDigits u))) ∧ Below w.heap.size w w' := by
  have hf := fmtU u h w T.tab
  go_enter Tryz.func38, Tryz.ntmps38
  go_wp2_with fail
  refine hf.mono ?_
  rintro e w1 ⟨rfl, hb⟩
  go_wp2
  go_ret
  exact ⟨rfl, hb⟩
def NumQ (f : List UInt8) (v : Value) : Prop := ∃ u : Nat, v = .int .u64 (u : Int) ∧ isU u ∧ ∀ z, natP f = some z → u = z
set_option maxRecDepth 100000 in
theorem d_number (f : List UInt8) (hf : f.length ≤ 200000000) (w : World) (T : Tb w) : Calls Tryz.prog 46 #[.string (mkS f)] w fun e w' => ∃ v, e = .returned v ∧ NumQ f v ∧ Below w.heap.size w w' := by
  by_cases hp : ∃ u, Lib.parseMag f = .ok u
  · obtain ⟨u, hp⟩ := hp
    have h1 := pu_ok f hf u hp w
    have HQ : Hid (NumQ f (.int .u64 (u : Int))) := keepH ⟨u, rfl, Lib.parseMag_lt hp, fun z hz => by
      unfold natP at hz
      rw [hp] at hz
      simp only at hz
      split at hz
      · injection hz
      · cases hz⟩
    obtain ⟨s, hs⟩ : ∃ s, s = mkS f := ⟨_, rfl⟩
    rw [← hs] at h1 ⊢
    clear hs hp T
    go_enter Tryz.func46, Tryz.ntmps46
    go_wp2_with fail
    refine h1.mono ?_
    rintro e w1 ⟨rfl, hb⟩
    go_wp2_with fail
    go_ret
    exact ⟨_, rfl, HQ.out, hb⟩
  · have h1 := pu_no f hf (fun u e => hp ⟨u, e⟩) w T
    have hnone : Hid (∀ z, natP f ≠ some z) := keepH (fun z hz => by
      unfold natP at hz
      split at hz
      · rename_i u hu
        exact hp ⟨u, hu⟩
      · cases hz)
    obtain ⟨s, hs⟩ : ∃ s, s = mkS f := ⟨_, rfl⟩
    rw [← hs] at h1 ⊢
    clear hs hp T
    go_enter Tryz.func46, Tryz.ntmps46
    go_wp2_with fail
    refine h1.mono ?_
    rintro e w1 ⟨⟨u, t, p, hu, rfl⟩, hb⟩
    go_wp2_with fail
    go_ret
    exact ⟨_, rfl, ⟨u, rfl, hu, fun z hz => absurd hz (hnone.out z)⟩, hb⟩

def L0 (th : Int) (k ad : Nat) : List UInt8 := (((Lib.itoa th ++ [32]) ++ wordL k) ++ [32]) ++ Lib.decDigits ad
theorem l0_len {th : Int} {k ad : Nat} (h0 : -9223372036854775808 ≤ th) (h1 : th < 9223372036854775808) (h2 : isU ad) : (L0 th k ad).length ≤ 100 := by
  have a := Lib.itoa_length_le th h0 (by omega)
  have b := dec_len h2
  have c : (wordL k).length ≤ 5 := by unfold wordL; split <;> simp
  unfold L0
  simp only [List.length_append, List.length_cons, List.length_nil]
  omega
theorem line_1 (th : Int) (ad got : Nat) : lineA ⟨th, 1, ad, 0, 0, [], got, false⟩ = L0 th 1 ad ++ ([32] ++ Lib.decDigits got) := by simp [lineA, partsL, numsL, join_cc, Lib.join_one, L0]
theorem line_2 (th : Int) (ad a : Nat) : lineA ⟨th, 2, ad, a, 0, [], 0, false⟩ = L0 th 2 ad ++ ([32] ++ Lib.decDigits a) := by simp [lineA, partsL, numsL, join_cc, Lib.join_one, L0]
theorem line_3 (th : Int) (ad a b : Nat) (ok : Bool) : lineA ⟨th, 3, ad, a, b, [], 0, ok⟩ = (L0 th 3 ad ++ ((([32] ++ Lib.decDigits a) ++ [32]) ++ Lib.decDigits b)) ++ (32 :: okL ok) := by simp [lineA, partsL, numsL, join_cc, Lib.join_one, L0]
theorem line_4 (th : Int) (ad a got : Nat) : lineA ⟨th, 4, ad, a, 0, [], got, false⟩ = L0 th 4 ad ++ ((([32] ++ Lib.decDigits a) ++ [32]) ++ Lib.decDigits got) := by simp [lineA, partsL, numsL, join_cc, Lib.join_one, L0]
def vtail (vals : List Nat) : List UInt8 := (vals.map (fun u => [32] ++ Lib.decDigits u)).flatten
theorem line_5 (th : Int) (ad : Nat) (vals : List Nat) : lineA ⟨th, 5, ad, 0, 0, vals, 0, false⟩ = L0 th 5 ad ++ vtail vals := by
  have key : ∀ (fs : List (List UInt8)) (a : List UInt8), Lib.join (a :: fs) [32] = a ++ (fs.map (fun f => [32] ++ f)).flatten := by
    intro fs
    induction fs with
    | nil => intro a; simp [Lib.join_one]
    | cons b r ih => intro a; rw [join_cc, ih b]; simp
  simp [lineA, partsL, numsL, key, L0, vtail, List.map_map, Function.comp_def]
theorem vtail_succ {vals : List Nat} {i u : Nat} (h : vals[i]? = some u) : vtail (vals.take (i + 1)) = vtail (vals.take i) ++ ([32] ++ Lib.decDigits u) := by
  unfold vtail; rw [List.take_add_one, h]; simp
theorem vtail_len {vals : List Nat} (h : ∀ u ∈ vals, isU u) : (vtail vals).length ≤ vals.length * 22 := by
  induction vals with
  | nil => simp [vtail]
  | cons u r ih =>
    have a := dec_len (h u (by simp))
    have b := ih (fun v hv => h v (by simp [hv]))
    unfold vtail at b ⊢
    simp only [List.map_cons, List.flatten_cons, List.length_append, List.length_cons, List.length_nil] at b ⊢
    omega
/-- the first part of a line -/
theorem joins0 (th : Int) (k ad : Nat) (h0 : -9223372036854775808 ≤ th) (h1 : th < 9223372036854775808) (h2 : isU ad) : ∃ s1 s2 s3 : ByteArray,
    (∀ W, (Op.stringOp .add (mkS (Lib.itoa th)) ⟨#[32]⟩).run Tryz.prog W = .ok (.string s1) W) ∧ (∀ W, (Op.stringOp .add s1 (mkS (wordL k))).run Tryz.prog W = .ok (.string s2) W) ∧
    (∀ W, (Op.stringOp .add s2 ⟨#[32]⟩).run Tryz.prog W = .ok (.string s3) W) ∧ (∀ W, (Op.stringOp .add s3 (mkS (Lib.decDigits ad))).run Tryz.prog W = .ok (.string (mkS (L0 th k ad))) W) := by
  have a := Lib.itoa_length_le th h0 (by omega)
  have b := dec_len h2
  have c : (wordL k).length ≤ 5 := by unfold wordL; split <;> simp
  refine ⟨_, _, _, add_str _ [32] (by simp; omega), add_str _ _ (by simp; omega), add_str _ [32] (by simp; omega), fun W => ?_⟩
  exact add_str _ _ (by simp; omega) W

set_option maxRecDepth 100000 in
set_option maxHeartbeats 4000000 in
theorem d_line_1 (th : Int) (ad a b got n c : Nat) (p : Option Addr) (ok : Bool) (W : World) (T : Tb W) (h0 : -9223372036854775808 ≤ th) (h1 : th < 9223372036854775808) (had : isU ad) (ha : isU a) (hb : isU b) (hgot : isU got) :
    Calls Tryz.prog 19 #[.agg #[.int .i64 th, .int .u8 1, .int .u64 (ad : Int), .int .u64 (a : Int), .int .u64 (b : Int), .slice p n c, .int .u64 (got : Int), .bool ok]] W fun e W' => e = .returned (.string (mkS (lineA ⟨th, 1, ad, 0, 0, [], got, false⟩))) ∧ Below W.heap.size W W' := by
  obtain ⟨w0, hw0⟩ : ∃ w0, w0 = W.alloc (.cells #[.int .i64 th, .int .u8 1, .int .u64 (ad : Int), .int .u64 (a : Int), .int .u64 (b : Int), .slice p n c, .int .u64 (got : Int), .bool ok] 36) := ⟨_, rfl⟩
  obtain ⟨B, hB⟩ : ∃ B, B = W.heap.size := ⟨_, rfl⟩
  have B0 : Below W.heap.size W w0 := by rw [hw0]; exact below_alloc _ _
  have X0 : w0.heap[B]? = some (.cells #[.int .i64 th, .int .u8 1, .int .u64 (ad : Int), .int .u64 (a : Int), .int .u64 (b : Int), .slice p n c, .int .u64 (got : Int), .bool ok] 36 (0, 0)) := by rw [hw0, hB]; exact heap_alloc_new _ _
  obtain ⟨s1, s2, s3, j1, j2, j3, j4⟩ := joins0 th 1 ad h0 h1 had
  have hNum : Hid (∀ u, isU u → ∀ w', Below W.heap.size W w' → Calls Tryz.prog 38 #[.int .u64 (u : Int)] w' fun e w'' => e = .returned (.string (mkS (Lib.decDigits u))) ∧ Below w'.heap.size w' w'') := keepH (fun u hu w' hb => d_num u hu w' (T.on hb))
  have KI : ∀ w', Below W.heap.size W w' → Calls Tryz.prog 33 #[.int .i64 th] w' fun e w'' => e = .returned (.string (mkS (Lib.itoa th))) ∧ Below w'.heap.size w' w'' := fun w' hb => itoa_any th h0 h1 w' (T.on hb)
  have KW : ∀ w', Calls Tryz.prog 37 #[.int .u8 1] w' fun e w'' => e = .returned (.string (mkS (wordL 1))) ∧ Below w'.heap.size w' w'' := fun w' => d_word 1 (by omega) w'
  have KN : ∀ w', Below W.heap.size W w' → Calls Tryz.prog 38 #[.int .u64 (ad : Int)] w' fun e w'' => e = .returned (.string (mkS (Lib.decDigits ad))) ∧ Below w'.heap.size w' w'' := hNum.out ad had
  have hl0 := l0_len (k := 1) h0 h1 had
  obtain ⟨ci, hci⟩ : ∃ x, x = mkS (Lib.itoa th) := ⟨_, rfl⟩
  obtain ⟨cw, hcw⟩ : ∃ x, x = mkS (wordL 1) := ⟨_, rfl⟩
  obtain ⟨cn, hcn⟩ : ∃ x, x = mkS (Lib.decDigits ad) := ⟨_, rfl⟩
  obtain ⟨l0, hl0s⟩ : ∃ x, x = mkS (L0 th 1 ad) := ⟨_, rfl⟩
  rw [← hci] at j1 KI
  rw [← hcw] at j2 KW
  rw [← hcn] at j4 KN
  rw [← hl0s] at j4
  have HKI := keepH KI
  have HKW := keepH KW
  have HKN := keepH KN
  have HL0 := keepH hl0s
  have HLN := keepH hl0
  have HB0 := keepH B0
  have HX0 := keepH X0
  have hd := dec_len hgot
  have t1 := add_str [32] (Lib.decDigits got) (by simp; omega)
  have t2 := add_str (L0 th 1 ad) ([32] ++ Lib.decDigits got) (by have := HLN.out; simp only [List.length_append, List.length_cons, List.length_nil]; omega)
  rw [← line_1] at t2
  obtain ⟨cf, hcf⟩ : ∃ x, x = mkS (Lib.decDigits got) := ⟨_, rfl⟩
  obtain ⟨cg, hcg⟩ : ∃ x, x = mkS ([32] ++ Lib.decDigits got) := ⟨_, rfl⟩
  obtain ⟨cl, hcl⟩ : ∃ x, x = mkS (lineA ⟨th, 1, ad, 0, 0, [], got, false⟩) := ⟨_, rfl⟩
  have KF : ∀ w', Below W.heap.size W w' → Calls Tryz.prog 38 #[.int .u64 (got : Int)] w' fun e w'' => e = .returned (.string (mkS (Lib.decDigits got))) ∧ Below w'.heap.size w' w'' := hNum.out got hgot
  rw [← hcf] at t1 KF
  rw [← hcg] at t1 t2
  rw [← HL0.out, ← hcl] at t2
  rw [← hcl]
  have HKF := keepH KF
  have t1' : ∀ W, (Op.stringOp .add ⟨#[32]⟩ cf).run Tryz.prog W = .ok (.string cg) W := t1
  clear hcf hcg hcl KF hd t1 hNum had ha hb hgot h0 h1
  clear hci hcw hcn hl0s KI KW KN hl0 T
  go_enter Tryz.func19, Tryz.ntmps19
  go_upto_region 1 with fail
  rw [← hw0, ← hB]
  clear hw0 hB B0
  have e0 : _ := cell_regrown (show w0.cell? ⟨B, 0, none⟩ = some (.int .i64 th) from cell_of X0 0)
  have e1 : _ := cell_regrown (show w0.cell? ⟨B, 1, none⟩ = some (.int .u8 1) from cell_of X0 1)
  have e2 : _ := cell_regrown (show w0.cell? ⟨B, 2, none⟩ = some (.int .u64 (ad : Int)) from cell_of X0 2)
  have G1 := keepH (fun dd os => Calls.regrown_of (w := w0) (d := dd) (os := os) (HKI.out _ (below_chain HB0.out (below_regrown w0 dd os))))
  have G2 := keepH (fun dd os => Calls.regrown_of (w := w0) (d := dd) (os := os) (HKW.out _))
  have G3 := keepH (fun dd os => Calls.regrown_of (w := w0) (d := dd) (os := os) (HKN.out _ (below_chain HB0.out (below_regrown w0 dd os))))
  have HBB : Hid (∀ dq osq, Below W.heap.size W (Sort.grow (redrawn w0 dq) osq) ∧ (Sort.grow (redrawn w0 dq) osq).heap[B]? = some (.cells #[.int .i64 th, .int .u8 1, .int .u64 (ad : Int), .int .u64 (a : Int), .int .u64 (b : Int), .slice p n c, .int .u64 (got : Int), .bool ok] 36 (0, 0))) := keepH (fun dq osq => ⟨below_chain HB0.out (below_regrown w0 dq osq), heap_below HX0.out (below_regrown w0 dq osq)⟩)
  clear X0
  refine wp_region_quiet_below (by kernel_rfl) (by kernel_rfl) ?_
  repeat (go_big_quiet_step (first | exact G1.out _ _ | exact G2.out _ _ | exact G3.out _ _))
  refine wpQuiet_nil ?_
  intro w1 hw'
  have HQ : Hid (Below W.heap.size W w1 ∧ w1.heap[B]? = some (.cells #[.int .i64 th, .int .u8 1, .int .u64 (ad : Int), .int .u64 (a : Int), .int .u64 (b : Int), .slice p n c, .int .u64 (got : Int), .bool ok] 36 (0, 0))) := by
    obtain ⟨⟨dq, osq⟩, hw''⟩ := hw'
    subst hw''
    exact HBB.out _ _
  clear hw' G1 G2 G3 HBB e0 e1 e2 j1 j2 j3 j4 HKI HKW HKN
  have y1 : w1.cell? ⟨B, 1, none⟩ = some (.int .u8 1) := cell_of HQ.out.2 1
  have yf : w1.cell? ⟨B, 6, none⟩ = some (.int .u64 (got : Int)) := cell_of HQ.out.2 6
  have hkf := HKF.out w1 HQ.out.1
  go_wp2_with fail
  refine hkf.mono ?_
  rintro e w2 ⟨rfl, C2⟩
  have B2 := below_chain HQ.out.1 C2
  clear C2 hkf yf y1
  go_wp2_with fail
  go_ret
  exact ⟨rfl, B2⟩

set_option maxRecDepth 100000 in
set_option maxHeartbeats 4000000 in
theorem d_line_2 (th : Int) (ad a b got n c : Nat) (p : Option Addr) (ok : Bool) (W : World) (T : Tb W) (h0 : -9223372036854775808 ≤ th) (h1 : th < 9223372036854775808) (had : isU ad) (ha : isU a) (hb : isU b) (hgot : isU got) :
    Calls Tryz.prog 19 #[.agg #[.int .i64 th, .int .u8 2, .int .u64 (ad : Int), .int .u64 (a : Int), .int .u64 (b : Int), .slice p n c, .int .u64 (got : Int), .bool ok]] W fun e W' => e = .returned (.string (mkS (lineA ⟨th, 2, ad, a, 0, [], 0, false⟩))) ∧ Below W.heap.size W W' := by
  obtain ⟨w0, hw0⟩ : ∃ w0, w0 = W.alloc (.cells #[.int .i64 th, .int .u8 2, .int .u64 (ad : Int), .int .u64 (a : Int), .int .u64 (b : Int), .slice p n c, .int .u64 (got : Int), .bool ok] 36) := ⟨_, rfl⟩
  obtain ⟨B, hB⟩ : ∃ B, B = W.heap.size := ⟨_, rfl⟩
  have B0 : Below W.heap.size W w0 := by rw [hw0]; exact below_alloc _ _
  have X0 : w0.heap[B]? = some (.cells #[.int .i64 th, .int .u8 2, .int .u64 (ad : Int), .int .u64 (a : Int), .int .u64 (b : Int), .slice p n c, .int .u64 (got : Int), .bool ok] 36 (0, 0)) := by rw [hw0, hB]; exact heap_alloc_new _ _
  obtain ⟨s1, s2, s3, j1, j2, j3, j4⟩ := joins0 th 2 ad h0 h1 had
  have hNum : Hid (∀ u, isU u → ∀ w', Below W.heap.size W w' → Calls Tryz.prog 38 #[.int .u64 (u : Int)] w' fun e w'' => e = .returned (.string (mkS (Lib.decDigits u))) ∧ Below w'.heap.size w' w'') := keepH (fun u hu w' hb => d_num u hu w' (T.on hb))
  have KI : ∀ w', Below W.heap.size W w' → Calls Tryz.prog 33 #[.int .i64 th] w' fun e w'' => e = .returned (.string (mkS (Lib.itoa th))) ∧ Below w'.heap.size w' w'' := fun w' hb => itoa_any th h0 h1 w' (T.on hb)
  have KW : ∀ w', Calls Tryz.prog 37 #[.int .u8 2] w' fun e w'' => e = .returned (.string (mkS (wordL 2))) ∧ Below w'.heap.size w' w'' := fun w' => d_word 2 (by omega) w'
  have KN : ∀ w', Below W.heap.size W w' → Calls Tryz.prog 38 #[.int .u64 (ad : Int)] w' fun e w'' => e = .returned (.string (mkS (Lib.decDigits ad))) ∧ Below w'.heap.size w' w'' := hNum.out ad had
  have hl0 := l0_len (k := 2) h0 h1 had
  obtain ⟨ci, hci⟩ : ∃ x, x = mkS (Lib.itoa th) := ⟨_, rfl⟩
  obtain ⟨cw, hcw⟩ : ∃ x, x = mkS (wordL 2) := ⟨_, rfl⟩
  obtain ⟨cn, hcn⟩ : ∃ x, x = mkS (Lib.decDigits ad) := ⟨_, rfl⟩
  obtain ⟨l0, hl0s⟩ : ∃ x, x = mkS (L0 th 2 ad) := ⟨_, rfl⟩
  rw [← hci] at j1 KI
  rw [← hcw] at j2 KW
  rw [← hcn] at j4 KN
  rw [← hl0s] at j4
  have HKI := keepH KI
  have HKW := keepH KW
  have HKN := keepH KN
  have HL0 := keepH hl0s
  have HLN := keepH hl0
  have HB0 := keepH B0
  have HX0 := keepH X0
  have hd := dec_len ha
  have t1 := add_str [32] (Lib.decDigits a) (by simp; omega)
  have t2 := add_str (L0 th 2 ad) ([32] ++ Lib.decDigits a) (by have := HLN.out; simp only [List.length_append, List.length_cons, List.length_nil]; omega)
  rw [← line_2] at t2
  obtain ⟨cf, hcf⟩ : ∃ x, x = mkS (Lib.decDigits a) := ⟨_, rfl⟩
  obtain ⟨cg, hcg⟩ : ∃ x, x = mkS ([32] ++ Lib.decDigits a) := ⟨_, rfl⟩
  obtain ⟨cl, hcl⟩ : ∃ x, x = mkS (lineA ⟨th, 2, ad, a, 0, [], 0, false⟩) := ⟨_, rfl⟩
  have KF : ∀ w', Below W.heap.size W w' → Calls Tryz.prog 38 #[.int .u64 (a : Int)] w' fun e w'' => e = .returned (.string (mkS (Lib.decDigits a))) ∧ Below w'.heap.size w' w'' := hNum.out a ha
  rw [← hcf] at t1 KF
  rw [← hcg] at t1 t2
  rw [← HL0.out, ← hcl] at t2
  rw [← hcl]
  have HKF := keepH KF
  have t1' : ∀ W, (Op.stringOp .add ⟨#[32]⟩ cf).run Tryz.prog W = .ok (.string cg) W := t1
  clear hcf hcg hcl KF hd t1 hNum had ha hb hgot h0 h1
  clear hci hcw hcn hl0s KI KW KN hl0 T
  go_enter Tryz.func19, Tryz.ntmps19
  go_upto_region 1 with fail
  rw [← hw0, ← hB]
  clear hw0 hB B0
  have e0 : _ := cell_regrown (show w0.cell? ⟨B, 0, none⟩ = some (.int .i64 th) from cell_of X0 0)
  have e1 : _ := cell_regrown (show w0.cell? ⟨B, 1, none⟩ = some (.int .u8 2) from cell_of X0 1)
  have e2 : _ := cell_regrown (show w0.cell? ⟨B, 2, none⟩ = some (.int .u64 (ad : Int)) from cell_of X0 2)
  have G1 := keepH (fun dd os => Calls.regrown_of (w := w0) (d := dd) (os := os) (HKI.out _ (below_chain HB0.out (below_regrown w0 dd os))))
  have G2 := keepH (fun dd os => Calls.regrown_of (w := w0) (d := dd) (os := os) (HKW.out _))
  have G3 := keepH (fun dd os => Calls.regrown_of (w := w0) (d := dd) (os := os) (HKN.out _ (below_chain HB0.out (below_regrown w0 dd os))))
  have HBB : Hid (∀ dq osq, Below W.heap.size W (Sort.grow (redrawn w0 dq) osq) ∧ (Sort.grow (redrawn w0 dq) osq).heap[B]? = some (.cells #[.int .i64 th, .int .u8 2, .int .u64 (ad : Int), .int .u64 (a : Int), .int .u64 (b : Int), .slice p n c, .int .u64 (got : Int), .bool ok] 36 (0, 0))) := keepH (fun dq osq => ⟨below_chain HB0.out (below_regrown w0 dq osq), heap_below HX0.out (below_regrown w0 dq osq)⟩)
  clear X0
  refine wp_region_quiet_below (by kernel_rfl) (by kernel_rfl) ?_
  repeat (go_big_quiet_step (first | exact G1.out _ _ | exact G2.out _ _ | exact G3.out _ _))
  refine wpQuiet_nil ?_
  intro w1 hw'
  have HQ : Hid (Below W.heap.size W w1 ∧ w1.heap[B]? = some (.cells #[.int .i64 th, .int .u8 2, .int .u64 (ad : Int), .int .u64 (a : Int), .int .u64 (b : Int), .slice p n c, .int .u64 (got : Int), .bool ok] 36 (0, 0))) := by
    obtain ⟨⟨dq, osq⟩, hw''⟩ := hw'
    subst hw''
    exact HBB.out _ _
  clear hw' G1 G2 G3 HBB e0 e1 e2 j1 j2 j3 j4 HKI HKW HKN
  have y1 : w1.cell? ⟨B, 1, none⟩ = some (.int .u8 2) := cell_of HQ.out.2 1
  have yf : w1.cell? ⟨B, 3, none⟩ = some (.int .u64 (a : Int)) := cell_of HQ.out.2 3
  have hkf := HKF.out w1 HQ.out.1
  go_wp2_with fail
  refine hkf.mono ?_
  rintro e w2 ⟨rfl, C2⟩
  have B2 := below_chain HQ.out.1 C2
  clear C2 hkf yf y1
  go_wp2_with fail
  go_ret
  exact ⟨rfl, B2⟩

set_option maxRecDepth 100000 in
set_option maxHeartbeats 4000000 in
theorem d_line_3 (th : Int) (ad a b got n c : Nat) (p : Option Addr) (ok : Bool) (W : World) (T : Tb W) (h0 : -9223372036854775808 ≤ th) (h1 : th < 9223372036854775808) (had : isU ad) (ha : isU a) (hb : isU b) (hgot : isU got) :
    Calls Tryz.prog 19 #[.agg #[.int .i64 th, .int .u8 3, .int .u64 (ad : Int), .int .u64 (a : Int), .int .u64 (b : Int), .slice p n c, .int .u64 (got : Int), .bool ok]] W fun e W' => e = .returned (.string (mkS (lineA ⟨th, 3, ad, a, b, [], 0, ok⟩))) ∧ Below W.heap.size W W' := by
  obtain ⟨w0, hw0⟩ : ∃ w0, w0 = W.alloc (.cells #[.int .i64 th, .int .u8 3, .int .u64 (ad : Int), .int .u64 (a : Int), .int .u64 (b : Int), .slice p n c, .int .u64 (got : Int), .bool ok] 36) := ⟨_, rfl⟩
  obtain ⟨B, hB⟩ : ∃ B, B = W.heap.size := ⟨_, rfl⟩
  have B0 : Below W.heap.size W w0 := by rw [hw0]; exact below_alloc _ _
  have X0 : w0.heap[B]? = some (.cells #[.int .i64 th, .int .u8 3, .int .u64 (ad : Int), .int .u64 (a : Int), .int .u64 (b : Int), .slice p n c, .int .u64 (got : Int), .bool ok] 36 (0, 0)) := by rw [hw0, hB]; exact heap_alloc_new _ _
  obtain ⟨s1, s2, s3, j1, j2, j3, j4⟩ := joins0 th 3 ad h0 h1 had
  have hNum : Hid (∀ u, isU u → ∀ w', Below W.heap.size W w' → Calls Tryz.prog 38 #[.int .u64 (u : Int)] w' fun e w'' => e = .returned (.string (mkS (Lib.decDigits u))) ∧ Below w'.heap.size w' w'') := keepH (fun u hu w' hb => d_num u hu w' (T.on hb))
  have KI : ∀ w', Below W.heap.size W w' → Calls Tryz.prog 33 #[.int .i64 th] w' fun e w'' => e = .returned (.string (mkS (Lib.itoa th))) ∧ Below w'.heap.size w' w'' := fun w' hb => itoa_any th h0 h1 w' (T.on hb)
  have KW : ∀ w', Calls Tryz.prog 37 #[.int .u8 3] w' fun e w'' => e = .returned (.string (mkS (wordL 3))) ∧ Below w'.heap.size w' w'' := fun w' => d_word 3 (by omega) w'
  have KN : ∀ w', Below W.heap.size W w' → Calls Tryz.prog 38 #[.int .u64 (ad : Int)] w' fun e w'' => e = .returned (.string (mkS (Lib.decDigits ad))) ∧ Below w'.heap.size w' w'' := hNum.out ad had
  have hl0 := l0_len (k := 3) h0 h1 had
  obtain ⟨ci, hci⟩ : ∃ x, x = mkS (Lib.itoa th) := ⟨_, rfl⟩
  obtain ⟨cw, hcw⟩ : ∃ x, x = mkS (wordL 3) := ⟨_, rfl⟩
  obtain ⟨cn, hcn⟩ : ∃ x, x = mkS (Lib.decDigits ad) := ⟨_, rfl⟩
  obtain ⟨l0, hl0s⟩ : ∃ x, x = mkS (L0 th 3 ad) := ⟨_, rfl⟩
  rw [← hci] at j1 KI
  rw [← hcw] at j2 KW
  rw [← hcn] at j4 KN
  rw [← hl0s] at j4
  have HKI := keepH KI
  have HKW := keepH KW
  have HKN := keepH KN
  have HL0 := keepH hl0s
  have HLN := keepH hl0
  have HB0 := keepH B0
  have HX0 := keepH X0
  have hd1 := dec_len ha
  have hd2 := dec_len hb
  have t1 := add_str [32] (Lib.decDigits a) (by simp; omega)
  have t2 := add_str ([32] ++ Lib.decDigits a) [32] (by simp; omega)
  have t3 := add_str (([32] ++ Lib.decDigits a) ++ [32]) (Lib.decDigits b) (by simp; omega)
  have t4 := add_str (L0 th 3 ad) ((([32] ++ Lib.decDigits a) ++ [32]) ++ Lib.decDigits b) (by have := HLN.out; simp only [List.length_append, List.length_cons, List.length_nil]; omega)
  obtain ⟨c1, hc1⟩ : ∃ x, x = mkS (Lib.decDigits a) := ⟨_, rfl⟩
  obtain ⟨c2, hc2⟩ : ∃ x, x = mkS (Lib.decDigits b) := ⟨_, rfl⟩
  obtain ⟨g1, hg1⟩ : ∃ x, x = mkS ([32] ++ Lib.decDigits a) := ⟨_, rfl⟩
  obtain ⟨g2, hg2⟩ : ∃ x, x = mkS (([32] ++ Lib.decDigits a) ++ [32]) := ⟨_, rfl⟩
  obtain ⟨g3, hg3⟩ : ∃ x, x = mkS ((([32] ++ Lib.decDigits a) ++ [32]) ++ Lib.decDigits b) := ⟨_, rfl⟩
  obtain ⟨g4, hg4⟩ : ∃ x, x = mkS (L0 th 3 ad ++ ((([32] ++ Lib.decDigits a) ++ [32]) ++ Lib.decDigits b)) := ⟨_, rfl⟩
  have K1 : ∀ w', Below W.heap.size W w' → Calls Tryz.prog 38 #[.int .u64 (a : Int)] w' fun e w'' => e = .returned (.string (mkS (Lib.decDigits a))) ∧ Below w'.heap.size w' w'' := hNum.out a ha
  have K2 : ∀ w', Below W.heap.size W w' → Calls Tryz.prog 38 #[.int .u64 (b : Int)] w' fun e w'' => e = .returned (.string (mkS (Lib.decDigits b))) ∧ Below w'.heap.size w' w'' := hNum.out b hb
  rw [← hc1] at t1 K1
  rw [← hc2] at t3 K2
  rw [← hg1] at t1 t2
  rw [← hg2] at t2 t3
  rw [← hg3] at t3 t4
  rw [← HL0.out, ← hg4] at t4
  have HK1 := keepH K1
  have HK2 := keepH K2
  have t1' : ∀ W, (Op.stringOp .add ⟨#[32]⟩ c1).run Tryz.prog W = .ok (.string g1) W := t1
  have t2' : ∀ W, (Op.stringOp .add g1 ⟨#[32]⟩).run Tryz.prog W = .ok (.string g2) W := t2
  have t5 := fun x : Bool => add_str (L0 th 3 ad ++ ((([32] ++ Lib.decDigits a) ++ [32]) ++ Lib.decDigits b)) (32 :: okL x) (by have := HLN.out; cases x <;> (simp only [List.length_append, List.length_cons, List.length_nil, okL]; simp; omega))
  obtain ⟨cl, hcl⟩ : ∃ x, x = mkS (lineA ⟨th, 3, ad, a, b, [], 0, ok⟩) := ⟨_, rfl⟩
  have t6 := t5 ok
  rw [← hg4, ← line_3, ← hcl] at t6
  rw [← hcl]
  clear hcl t5
  clear hc1 hc2 hg1 hg2 hg3 hg4 K1 K2 hd1 hd2 t1 t2 hNum had ha hb hgot h0 h1
  clear hci hcw hcn hl0s KI KW KN hl0 T
  go_enter Tryz.func19, Tryz.ntmps19
  go_upto_region 1 with fail
  rw [← hw0, ← hB]
  clear hw0 hB B0
  have e0 : _ := cell_regrown (show w0.cell? ⟨B, 0, none⟩ = some (.int .i64 th) from cell_of X0 0)
  have e1 : _ := cell_regrown (show w0.cell? ⟨B, 1, none⟩ = some (.int .u8 3) from cell_of X0 1)
  have e2 : _ := cell_regrown (show w0.cell? ⟨B, 2, none⟩ = some (.int .u64 (ad : Int)) from cell_of X0 2)
  have G1 := keepH (fun dd os => Calls.regrown_of (w := w0) (d := dd) (os := os) (HKI.out _ (below_chain HB0.out (below_regrown w0 dd os))))
  have G2 := keepH (fun dd os => Calls.regrown_of (w := w0) (d := dd) (os := os) (HKW.out _))
  have G3 := keepH (fun dd os => Calls.regrown_of (w := w0) (d := dd) (os := os) (HKN.out _ (below_chain HB0.out (below_regrown w0 dd os))))
  have HBB : Hid (∀ dq osq, Below W.heap.size W (Sort.grow (redrawn w0 dq) osq) ∧ (Sort.grow (redrawn w0 dq) osq).heap[B]? = some (.cells #[.int .i64 th, .int .u8 3, .int .u64 (ad : Int), .int .u64 (a : Int), .int .u64 (b : Int), .slice p n c, .int .u64 (got : Int), .bool ok] 36 (0, 0))) := keepH (fun dq osq => ⟨below_chain HB0.out (below_regrown w0 dq osq), heap_below HX0.out (below_regrown w0 dq osq)⟩)
  clear X0
  refine wp_region_quiet_below (by kernel_rfl) (by kernel_rfl) ?_
  repeat (go_big_quiet_step (first | exact G1.out _ _ | exact G2.out _ _ | exact G3.out _ _))
  refine wpQuiet_nil ?_
  intro w1 hw'
  have HQ : Hid (Below W.heap.size W w1 ∧ w1.heap[B]? = some (.cells #[.int .i64 th, .int .u8 3, .int .u64 (ad : Int), .int .u64 (a : Int), .int .u64 (b : Int), .slice p n c, .int .u64 (got : Int), .bool ok] 36 (0, 0))) := by
    obtain ⟨⟨dq, osq⟩, hw''⟩ := hw'
    subst hw''
    exact HBB.out _ _
  clear hw' G1 G2 G3 HBB e0 e1 e2 j1 j2 j3 j4 HKI HKW HKN
  have y1 : w1.cell? ⟨B, 1, none⟩ = some (.int .u8 3) := cell_of HQ.out.2 1
  have e3 : _ := cell_regrown (show w1.cell? ⟨B, 3, none⟩ = some (.int .u64 (a : Int)) from cell_of HQ.out.2 3)
  have e4 : _ := cell_regrown (show w1.cell? ⟨B, 4, none⟩ = some (.int .u64 (b : Int)) from cell_of HQ.out.2 4)
  have G1 := keepH (fun dd os => Calls.regrown_of (w := w1) (d := dd) (os := os) (HK1.out _ (below_chain HQ.out.1 (below_regrown w1 dd os))))
  have G2 := keepH (fun dd os => Calls.regrown_of (w := w1) (d := dd) (os := os) (HK2.out _ (below_chain HQ.out.1 (below_regrown w1 dd os))))
  have HBB : Hid (∀ dq osq, Below W.heap.size W (Sort.grow (redrawn w1 dq) osq) ∧ (Sort.grow (redrawn w1 dq) osq).heap[B]? = some (.cells #[.int .i64 th, .int .u8 3, .int .u64 (ad : Int), .int .u64 (a : Int), .int .u64 (b : Int), .slice p n c, .int .u64 (got : Int), .bool ok] 36 (0, 0))) := keepH (fun dq osq => ⟨below_chain HQ.out.1 (below_regrown w1 dq osq), heap_below HQ.out.2 (below_regrown w1 dq osq)⟩)
  go_upto_region 8 with fail
  refine wp_region_quiet_below (by kernel_rfl) (by kernel_rfl) ?_
  repeat (go_big_quiet_step (first | exact G1.out _ _ | exact G2.out _ _))
  refine wpQuiet_nil ?_
  intro w2 hw'
  have HQ2 : Hid (Below W.heap.size W w2 ∧ w2.heap[B]? = some (.cells #[.int .i64 th, .int .u8 3, .int .u64 (ad : Int), .int .u64 (a : Int), .int .u64 (b : Int), .slice p n c, .int .u64 (got : Int), .bool ok] 36 (0, 0))) := by
    obtain ⟨⟨dq, osq⟩, hw''⟩ := hw'
    subst hw''
    exact HBB.out _ _
  clear hw' G1 G2 HBB e3 e4
  have y7 : w2.cell? ⟨B, 7, none⟩ = some (.bool ok) := cell_of HQ2.out.2 7
  cases ok
  · have t6' : ∀ W, (Op.stringOp .add g4 ⟨#[32, 110, 111]⟩).run Tryz.prog W = .ok (.string cl) W := t6
    go_wp2_with fail
    go_ret
    exact ⟨rfl, HQ2.out.1⟩
  · have t6' : ∀ W, (Op.stringOp .add g4 ⟨#[32, 121, 101, 115]⟩).run Tryz.prog W = .ok (.string cl) W := t6
    go_wp2_with fail
    go_ret
    exact ⟨rfl, HQ2.out.1⟩

set_option maxRecDepth 100000 in
set_option maxHeartbeats 4000000 in
theorem d_line_4 (th : Int) (ad a b got n c : Nat) (p : Option Addr) (ok : Bool) (W : World) (T : Tb W) (h0 : -9223372036854775808 ≤ th) (h1 : th < 9223372036854775808) (had : isU ad) (ha : isU a) (hb : isU b) (hgot : isU got) :
    Calls Tryz.prog 19 #[.agg #[.int .i64 th, .int .u8 4, .int .u64 (ad : Int), .int .u64 (a : Int), .int .u64 (b : Int), .slice p n c, .int .u64 (got : Int), .bool ok]] W fun e W' => e = .returned (.string (mkS (lineA ⟨th, 4, ad, a, 0, [], got, false⟩))) ∧ Below W.heap.size W W' := by
  obtain ⟨w0, hw0⟩ : ∃ w0, w0 = W.alloc (.cells #[.int .i64 th, .int .u8 4, .int .u64 (ad : Int), .int .u64 (a : Int), .int .u64 (b : Int), .slice p n c, .int .u64 (got : Int), .bool ok] 36) := ⟨_, rfl⟩
  obtain ⟨B, hB⟩ : ∃ B, B = W.heap.size := ⟨_, rfl⟩
  have B0 : Below W.heap.size W w0 := by rw [hw0]; exact below_alloc _ _
  have X0 : w0.heap[B]? = some (.cells #[.int .i64 th, .int .u8 4, .int .u64 (ad : Int), .int .u64 (a : Int), .int .u64 (b : Int), .slice p n c, .int .u64 (got : Int), .bool ok] 36 (0, 0)) := by rw [hw0, hB]; exact heap_alloc_new _ _
  obtain ⟨s1, s2, s3, j1, j2, j3, j4⟩ := joins0 th 4 ad h0 h1 had
  have hNum : Hid (∀ u, isU u → ∀ w', Below W.heap.size W w' → Calls Tryz.prog 38 #[.int .u64 (u : Int)] w' fun e w'' => e = .returned (.string (mkS (Lib.decDigits u))) ∧ Below w'.heap.size w' w'') := keepH (fun u hu w' hb => d_num u hu w' (T.on hb))
  have KI : ∀ w', Below W.heap.size W w' → Calls Tryz.prog 33 #[.int .i64 th] w' fun e w'' => e = .returned (.string (mkS (Lib.itoa th))) ∧ Below w'.heap.size w' w'' := fun w' hb => itoa_any th h0 h1 w' (T.on hb)
  have KW : ∀ w', Calls Tryz.prog 37 #[.int .u8 4] w' fun e w'' => e = .returned (.string (mkS (wordL 4))) ∧ Below w'.heap.size w' w'' := fun w' => d_word 4 (by omega) w'
  have KN : ∀ w', Below W.heap.size W w' → Calls Tryz.prog 38 #[.int .u64 (ad : Int)] w' fun e w'' => e = .returned (.string (mkS (Lib.decDigits ad))) ∧ Below w'.heap.size w' w'' := hNum.out ad had
  have hl0 := l0_len (k := 4) h0 h1 had
  obtain ⟨ci, hci⟩ : ∃ x, x = mkS (Lib.itoa th) := ⟨_, rfl⟩
  obtain ⟨cw, hcw⟩ : ∃ x, x = mkS (wordL 4) := ⟨_, rfl⟩
  obtain ⟨cn, hcn⟩ : ∃ x, x = mkS (Lib.decDigits ad) := ⟨_, rfl⟩
  obtain ⟨l0, hl0s⟩ : ∃ x, x = mkS (L0 th 4 ad) := ⟨_, rfl⟩
  rw [← hci] at j1 KI
  rw [← hcw] at j2 KW
  rw [← hcn] at j4 KN
  rw [← hl0s] at j4
  have HKI := keepH KI
  have HKW := keepH KW
  have HKN := keepH KN
  have HL0 := keepH hl0s
  have HLN := keepH hl0
  have HB0 := keepH B0
  have HX0 := keepH X0
  have hd1 := dec_len ha
  have hd2 := dec_len hgot
  have t1 := add_str [32] (Lib.decDigits a) (by simp; omega)
  have t2 := add_str ([32] ++ Lib.decDigits a) [32] (by simp; omega)
  have t3 := add_str (([32] ++ Lib.decDigits a) ++ [32]) (Lib.decDigits got) (by simp; omega)
  have t4 := add_str (L0 th 4 ad) ((([32] ++ Lib.decDigits a) ++ [32]) ++ Lib.decDigits got) (by have := HLN.out; simp only [List.length_append, List.length_cons, List.length_nil]; omega)
  obtain ⟨c1, hc1⟩ : ∃ x, x = mkS (Lib.decDigits a) := ⟨_, rfl⟩
  obtain ⟨c2, hc2⟩ : ∃ x, x = mkS (Lib.decDigits got) := ⟨_, rfl⟩
  obtain ⟨g1, hg1⟩ : ∃ x, x = mkS ([32] ++ Lib.decDigits a) := ⟨_, rfl⟩
  obtain ⟨g2, hg2⟩ : ∃ x, x = mkS (([32] ++ Lib.decDigits a) ++ [32]) := ⟨_, rfl⟩
  obtain ⟨g3, hg3⟩ : ∃ x, x = mkS ((([32] ++ Lib.decDigits a) ++ [32]) ++ Lib.decDigits got) := ⟨_, rfl⟩
  obtain ⟨g4, hg4⟩ : ∃ x, x = mkS (L0 th 4 ad ++ ((([32] ++ Lib.decDigits a) ++ [32]) ++ Lib.decDigits got)) := ⟨_, rfl⟩
  have K1 : ∀ w', Below W.heap.size W w' → Calls Tryz.prog 38 #[.int .u64 (a : Int)] w' fun e w'' => e = .returned (.string (mkS (Lib.decDigits a))) ∧ Below w'.heap.size w' w'' := hNum.out a ha
  have K2 : ∀ w', Below W.heap.size W w' → Calls Tryz.prog 38 #[.int .u64 (got : Int)] w' fun e w'' => e = .returned (.string (mkS (Lib.decDigits got))) ∧ Below w'.heap.size w' w'' := hNum.out got hgot
  rw [← hc1] at t1 K1
  rw [← hc2] at t3 K2
  rw [← hg1] at t1 t2
  rw [← hg2] at t2 t3
  rw [← hg3] at t3 t4
  rw [← HL0.out, ← hg4] at t4
  have HK1 := keepH K1
  have HK2 := keepH K2
  have t1' : ∀ W, (Op.stringOp .add ⟨#[32]⟩ c1).run Tryz.prog W = .ok (.string g1) W := t1
  have t2' : ∀ W, (Op.stringOp .add g1 ⟨#[32]⟩).run Tryz.prog W = .ok (.string g2) W := t2
  rw [line_4, ← hg4]
  clear hc1 hc2 hg1 hg2 hg3 hg4 K1 K2 hd1 hd2 t1 t2 hNum had ha hb hgot h0 h1
  clear hci hcw hcn hl0s KI KW KN hl0 T
  go_enter Tryz.func19, Tryz.ntmps19
  go_upto_region 1 with fail
  rw [← hw0, ← hB]
  clear hw0 hB B0
  have e0 : _ := cell_regrown (show w0.cell? ⟨B, 0, none⟩ = some (.int .i64 th) from cell_of X0 0)
  have e1 : _ := cell_regrown (show w0.cell? ⟨B, 1, none⟩ = some (.int .u8 4) from cell_of X0 1)
  have e2 : _ := cell_regrown (show w0.cell? ⟨B, 2, none⟩ = some (.int .u64 (ad : Int)) from cell_of X0 2)
  have G1 := keepH (fun dd os => Calls.regrown_of (w := w0) (d := dd) (os := os) (HKI.out _ (below_chain HB0.out (below_regrown w0 dd os))))
  have G2 := keepH (fun dd os => Calls.regrown_of (w := w0) (d := dd) (os := os) (HKW.out _))
  have G3 := keepH (fun dd os => Calls.regrown_of (w := w0) (d := dd) (os := os) (HKN.out _ (below_chain HB0.out (below_regrown w0 dd os))))
  have HBB : Hid (∀ dq osq, Below W.heap.size W (Sort.grow (redrawn w0 dq) osq) ∧ (Sort.grow (redrawn w0 dq) osq).heap[B]? = some (.cells #[.int .i64 th, .int .u8 4, .int .u64 (ad : Int), .int .u64 (a : Int), .int .u64 (b : Int), .slice p n c, .int .u64 (got : Int), .bool ok] 36 (0, 0))) := keepH (fun dq osq => ⟨below_chain HB0.out (below_regrown w0 dq osq), heap_below HX0.out (below_regrown w0 dq osq)⟩)
  clear X0
  refine wp_region_quiet_below (by kernel_rfl) (by kernel_rfl) ?_
  repeat (go_big_quiet_step (first | exact G1.out _ _ | exact G2.out _ _ | exact G3.out _ _))
  refine wpQuiet_nil ?_
  intro w1 hw'
  have HQ : Hid (Below W.heap.size W w1 ∧ w1.heap[B]? = some (.cells #[.int .i64 th, .int .u8 4, .int .u64 (ad : Int), .int .u64 (a : Int), .int .u64 (b : Int), .slice p n c, .int .u64 (got : Int), .bool ok] 36 (0, 0))) := by
    obtain ⟨⟨dq, osq⟩, hw''⟩ := hw'
    subst hw''
    exact HBB.out _ _
  clear hw' G1 G2 G3 HBB e0 e1 e2 j1 j2 j3 j4 HKI HKW HKN
  have y1 : w1.cell? ⟨B, 1, none⟩ = some (.int .u8 4) := cell_of HQ.out.2 1
  have e3 : _ := cell_regrown (show w1.cell? ⟨B, 3, none⟩ = some (.int .u64 (a : Int)) from cell_of HQ.out.2 3)
  have e4 : _ := cell_regrown (show w1.cell? ⟨B, 6, none⟩ = some (.int .u64 (got : Int)) from cell_of HQ.out.2 6)
  have G1 := keepH (fun dd os => Calls.regrown_of (w := w1) (d := dd) (os := os) (HK1.out _ (below_chain HQ.out.1 (below_regrown w1 dd os))))
  have G2 := keepH (fun dd os => Calls.regrown_of (w := w1) (d := dd) (os := os) (HK2.out _ (below_chain HQ.out.1 (below_regrown w1 dd os))))
  have HBB : Hid (∀ dq osq, Below W.heap.size W (Sort.grow (redrawn w1 dq) osq) ∧ (Sort.grow (redrawn w1 dq) osq).heap[B]? = some (.cells #[.int .i64 th, .int .u8 4, .int .u64 (ad : Int), .int .u64 (a : Int), .int .u64 (b : Int), .slice p n c, .int .u64 (got : Int), .bool ok] 36 (0, 0))) := keepH (fun dq osq => ⟨below_chain HQ.out.1 (below_regrown w1 dq osq), heap_below HQ.out.2 (below_regrown w1 dq osq)⟩)
  go_upto_region 13 with fail
  refine wp_region_quiet_below (by kernel_rfl) (by kernel_rfl) ?_
  repeat (go_big_quiet_step (first | exact G1.out _ _ | exact G2.out _ _))
  refine wpQuiet_nil ?_
  intro w2 hw'
  have HQ2 : Hid (Below W.heap.size W w2 ∧ w2.heap[B]? = some (.cells #[.int .i64 th, .int .u8 4, .int .u64 (ad : Int), .int .u64 (a : Int), .int .u64 (b : Int), .slice p n c, .int .u64 (got : Int), .bool ok] 36 (0, 0))) := by
    obtain ⟨⟨dq, osq⟩, hw''⟩ := hw'
    subst hw''
    exact HBB.out _ _
  clear hw' G1 G2 HBB e3 e4
  go_wp2_with fail
  go_ret
  exact ⟨rfl, HQ2.out.1⟩

set_option maxRecDepth 100000 in
set_option maxHeartbeats 4000000 in
theorem d_line_5 (th : Int) (ad a b got n c : Nat) (p : Option Addr) (ok : Bool) (vals : List Nat) (hn : n = vals.length) (hv : ∀ u ∈ vals, isU u) (hl : vals.length ≤ 1048576) (W : World) (T : Tb W) (h0 : -9223372036854775808 ≤ th) (h1 : th < 9223372036854775808) (had : isU ad) (ha : isU a) (hb : isU b) (hgot : isU got) (hu : URd W p vals) :
    Calls Tryz.prog 19 #[.agg #[.int .i64 th, .int .u8 5, .int .u64 (ad : Int), .int .u64 (a : Int), .int .u64 (b : Int), .slice p n c, .int .u64 (got : Int), .bool ok]] W fun e W' => e = .returned (.string (mkS (lineA ⟨th, 5, ad, 0, 0, vals, 0, false⟩))) ∧ Below W.heap.size W W' := by
  obtain ⟨w0, hw0⟩ : ∃ w0, w0 = W.alloc (.cells #[.int .i64 th, .int .u8 5, .int .u64 (ad : Int), .int .u64 (a : Int), .int .u64 (b : Int), .slice p n c, .int .u64 (got : Int), .bool ok] 36) := ⟨_, rfl⟩
  obtain ⟨B, hB⟩ : ∃ B, B = W.heap.size := ⟨_, rfl⟩
  have B0 : Below W.heap.size W w0 := by rw [hw0]; exact below_alloc _ _
  have X0 : w0.heap[B]? = some (.cells #[.int .i64 th, .int .u8 5, .int .u64 (ad : Int), .int .u64 (a : Int), .int .u64 (b : Int), .slice p n c, .int .u64 (got : Int), .bool ok] 36 (0, 0)) := by rw [hw0, hB]; exact heap_alloc_new _ _
  obtain ⟨s1, s2, s3, j1, j2, j3, j4⟩ := joins0 th 5 ad h0 h1 had
  have hNum : Hid (∀ u, isU u → ∀ w', Below W.heap.size W w' → Calls Tryz.prog 38 #[.int .u64 (u : Int)] w' fun e w'' => e = .returned (.string (mkS (Lib.decDigits u))) ∧ Below w'.heap.size w' w'') := keepH (fun u hu w' hb => d_num u hu w' (T.on hb))
  have KI : ∀ w', Below W.heap.size W w' → Calls Tryz.prog 33 #[.int .i64 th] w' fun e w'' => e = .returned (.string (mkS (Lib.itoa th))) ∧ Below w'.heap.size w' w'' := fun w' hb => itoa_any th h0 h1 w' (T.on hb)
  have KW : ∀ w', Calls Tryz.prog 37 #[.int .u8 5] w' fun e w'' => e = .returned (.string (mkS (wordL 5))) ∧ Below w'.heap.size w' w'' := fun w' => d_word 5 (by omega) w'
  have KN : ∀ w', Below W.heap.size W w' → Calls Tryz.prog 38 #[.int .u64 (ad : Int)] w' fun e w'' => e = .returned (.string (mkS (Lib.decDigits ad))) ∧ Below w'.heap.size w' w'' := hNum.out ad had
  have hl0 := l0_len (k := 5) h0 h1 had
  obtain ⟨ci, hci⟩ : ∃ x, x = mkS (Lib.itoa th) := ⟨_, rfl⟩
  obtain ⟨cw, hcw⟩ : ∃ x, x = mkS (wordL 5) := ⟨_, rfl⟩
  obtain ⟨cn, hcn⟩ : ∃ x, x = mkS (Lib.decDigits ad) := ⟨_, rfl⟩
  obtain ⟨l0, hl0s⟩ : ∃ x, x = mkS (L0 th 5 ad) := ⟨_, rfl⟩
  rw [← hci] at j1 KI
  rw [← hcw] at j2 KW
  rw [← hcn] at j4 KN
  rw [← hl0s] at j4
  have HKI := keepH KI
  have HKW := keepH KW
  have HKN := keepH KN
  have HL0 := keepH hl0s
  have HLN := keepH hl0
  have HB0 := keepH B0
  have HX0 := keepH X0
  have HU := keepH hu
  have HV := keepH hv
  have HN := keepH hn
  have hnl : n ≤ 1048576 := by omega
  rw [line_5]
  clear had ha hb hgot h0 h1 hu hv hn hl
  clear hci hcw hcn hl0s KI KW KN hl0 T
  go_enter Tryz.func19, Tryz.ntmps19
  go_upto_region 1 with fail
  rw [← hw0, ← hB]
  clear hw0 hB B0
  have e0 : _ := cell_regrown (show w0.cell? ⟨B, 0, none⟩ = some (.int .i64 th) from cell_of X0 0)
  have e1 : _ := cell_regrown (show w0.cell? ⟨B, 1, none⟩ = some (.int .u8 5) from cell_of X0 1)
  have e2 : _ := cell_regrown (show w0.cell? ⟨B, 2, none⟩ = some (.int .u64 (ad : Int)) from cell_of X0 2)
  have G1 := keepH (fun dd os => Calls.regrown_of (w := w0) (d := dd) (os := os) (HKI.out _ (below_chain HB0.out (below_regrown w0 dd os))))
  have G2 := keepH (fun dd os => Calls.regrown_of (w := w0) (d := dd) (os := os) (HKW.out _))
  have G3 := keepH (fun dd os => Calls.regrown_of (w := w0) (d := dd) (os := os) (HKN.out _ (below_chain HB0.out (below_regrown w0 dd os))))
  have HBB : Hid (∀ dq osq, Below W.heap.size W (Sort.grow (redrawn w0 dq) osq) ∧ (Sort.grow (redrawn w0 dq) osq).heap[B]? = some (.cells #[.int .i64 th, .int .u8 5, .int .u64 (ad : Int), .int .u64 (a : Int), .int .u64 (b : Int), .slice p n c, .int .u64 (got : Int), .bool ok] 36 (0, 0))) := keepH (fun dq osq => ⟨below_chain HB0.out (below_regrown w0 dq osq), heap_below HX0.out (below_regrown w0 dq osq)⟩)
  clear X0
  refine wp_region_quiet_below (by kernel_rfl) (by kernel_rfl) ?_
  repeat (go_big_quiet_step (first | exact G1.out _ _ | exact G2.out _ _ | exact G3.out _ _))
  refine wpQuiet_nil ?_
  intro w1 hw'
  have HQ : Hid (Below W.heap.size W w1 ∧ w1.heap[B]? = some (.cells #[.int .i64 th, .int .u8 5, .int .u64 (ad : Int), .int .u64 (a : Int), .int .u64 (b : Int), .slice p n c, .int .u64 (got : Int), .bool ok] 36 (0, 0))) := by
    obtain ⟨⟨dq, osq⟩, hw''⟩ := hw'
    subst hw''
    exact HBB.out _ _
  clear hw' G1 G2 G3 HBB e0 e1 e2 j1 j2 j3 j4 HKI HKW HKN
  have y1 : w1.cell? ⟨B, 1, none⟩ = some (.int .u8 5) := cell_of HQ.out.2 1
  go_wp2_with fail
  go_loopw [3, 4] (fun s3 s4 wr => ∃ i : Nat, i ≤ n ∧ s4 = .int .i64 (i : Int) ∧ s3 = .string (mkS (L0 th 5 ad ++ vtail (vals.take i))) ∧ Hid (Below W.heap.size W wr ∧ wr.heap[B]? = some (.cells #[.int .i64 th, .int .u8 5, .int .u64 (ad : Int), .int .u64 (a : Int), .int .u64 (b : Int), .slice p n c, .int .u64 (got : Int), .bool ok] 36 (0, 0)))) (fun _ s4 _ => n - (intOf s4).toNat)
  case atStart => exact ⟨0, by omega, rfl, by rw [HL0.out]; simp [vtail], HQ⟩
  case round =>
    obtain ⟨i, hi, rfl, rfl, HI⟩ := hrel
    have y5 : wr.cell? ⟨B, 5, none⟩ = some (.slice p n c) := cell_of HI.out.2 5
    by_cases hlt : i < n
    · have q1 : (i : Int) < (n : Int) := by omega
      have q0 : (0 : Int) ≤ (i : Int) := by omega
      obtain ⟨u, hu⟩ : ∃ u, vals[i]? = some u := ⟨vals[i]'(by rw [← HN.out]; exact hlt), List.getElem?_eq_getElem _⟩
      have huu := HV.out u (List.mem_of_getElem? hu)
      obtain ⟨bk, off, rfl, _, c0⟩ := (HU.out.on HI.out.1).get i u hu
      have hk := hNum.out u huu wr HI.out.1
      have t1 := add_str [32] (Lib.decDigits u) (by have := dec_len huu; simp; omega)
      have t2 := add_str (L0 th 5 ad ++ vtail (vals.take i)) ([32] ++ Lib.decDigits u) (by
        have a1 := HLN.out
        have a2 := dec_len huu
        have a3 := vtail_len (vals := vals.take i) (fun v hv => HV.out v (List.mem_of_mem_take hv))
        rw [List.length_take] at a3
        have a4 : min i vals.length ≤ 1048576 := by omega
        simp only [List.length_append, List.length_cons, List.length_nil]
        omega)
      rw [List.append_assoc, ← vtail_succ hu] at t2
      obtain ⟨sa, hsa⟩ : ∃ x, x = mkS (L0 th 5 ad ++ vtail (vals.take i)) := ⟨_, rfl⟩
      obtain ⟨sb, hsb⟩ : ∃ x, x = mkS (L0 th 5 ad ++ vtail (vals.take (i + 1))) := ⟨_, rfl⟩
      obtain ⟨cf, hcf⟩ : ∃ x, x = mkS (Lib.decDigits u) := ⟨_, rfl⟩
      obtain ⟨cg, hcg⟩ : ∃ x, x = mkS ([32] ++ Lib.decDigits u) := ⟨_, rfl⟩
      rw [← hcf] at t1 hk
      rw [← hcg] at t1 t2
      rw [← hsa, ← hsb] at t2
      rw [← hsa]
      have t1' : ∀ W, (Op.stringOp .add ⟨#[32]⟩ cf).run Tryz.prog W = .ok (.string cg) W := t1
      have HSB := keepH hsb
      clear hsa hsb hcf hcg hu huu t1
      go_wp2_with fail
      refine hk.mono ?_
      rintro e w2 ⟨rfl, C2⟩
      have HI2 : Hid (Below W.heap.size W w2 ∧ w2.heap[B]? = some (.cells #[.int .i64 th, .int .u8 5, .int .u64 (ad : Int), .int .u64 (a : Int), .int .u64 (b : Int), .slice (some ⟨bk, off, none⟩) n c, .int .u64 (got : Int), .bool ok] 36 (0, 0))) := keepH ⟨below_chain HI.out.1 C2, heap_below HI.out.2 C2⟩
      clear C2 hk c0 y5
      go_wp2_with fail
      go_roundw
      case rel => exact ⟨i + 1, by omega, by first | rfl | go_num, by rw [HSB.out], HI2⟩
      case measure => simp [intOf]; omega
    · have q1 : ¬ (i : Int) < (n : Int) := by omega
      go_wp2_with fail
      go_ret
      exact ⟨by rw [List.take_of_length_le (by rw [← HN.out]; omega)]; rfl, HI.out.1⟩
end Go.Proofs.YtdgagpcofghbaaaGreatDoor
