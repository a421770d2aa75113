/- The document's right, word, num, number; its line of a right access, by kind. (mkRuc.py) -/
import Derived.Test.YtjodechhnobkhaaGreatDoorRub
namespace Go.Proofs.YtjodechhnobkhaaGreatDoor
open Go.RowKit Go.Shelf
set_option linter.unusedVariables false

set_option maxRecDepth 100000 in
theorem d_right_no (th : Int) (kind ad a b got n c : Nat) (p : Option Addr) (ok : Bool) (W : World) (hk : kind = 0 ∨ 5 < kind) :
    Calls Tryz.prog 34 #[.agg (accC th kind ad a b (.slice p n c) got ok)] W fun e W' => e = .returned (.bool false) ∧ Below W.heap.size W W' := by
  have q1 : ((kind : Int) == 1) = false := by simp; omega
  have q2 : ((kind : Int) == 2) = false := by simp; omega
  have q3 : ((kind : Int) == 3) = false := by simp; omega
  have q4 : ((kind : Int) == 4) = false := by simp; omega
  have q5 : ((kind : Int) == 5) = false := by simp; omega
  have HB := keepH (two_boxes W (.cells (accC th kind ad a b (.slice p n c) got ok) 44) (.cells (accC th kind ad 0 0 (.slice none 0 0) 0 false) 44))
  clear hk
  go_enter Tryz.func34, Tryz.ntmps34
  go_wp2_with fail
  go_ret
  exact ⟨rfl, HB.out⟩
theorem right_eq1 {th : Int} {ad a b got : Nat} {vals : List Nat} {ok : Bool} : (⟨th, 1, ad, a, b, vals, got, ok⟩ : Ax) = ⟨th, 1, ad, 0, 0, [], got, false⟩ ↔ RightA ⟨th, 1, ad, a, b, vals, got, ok⟩ := by simp [RightA]
theorem right_eq2 {th : Int} {ad a b got : Nat} {vals : List Nat} {ok : Bool} : (⟨th, 2, ad, a, b, vals, got, ok⟩ : Ax) = ⟨th, 2, ad, a, 0, [], 0, false⟩ ↔ RightA ⟨th, 2, ad, a, b, vals, got, ok⟩ := by simp [RightA]
theorem right_eq3 {th : Int} {ad a b got : Nat} {vals : List Nat} {ok : Bool} : (⟨th, 3, ad, a, b, vals, got, ok⟩ : Ax) = ⟨th, 3, ad, a, b, [], 0, ok⟩ ↔ RightA ⟨th, 3, ad, a, b, vals, got, ok⟩ := by simp [RightA]
theorem right_eq4 {th : Int} {ad a b got : Nat} {vals : List Nat} {ok : Bool} : (⟨th, 4, ad, a, b, vals, got, ok⟩ : Ax) = ⟨th, 4, ad, a, 0, [], got, false⟩ ↔ RightA ⟨th, 4, ad, a, b, vals, got, ok⟩ := by simp [RightA]
theorem right_eq5 {th : Int} {ad a b got : Nat} {vals : List Nat} {ok : Bool} : (⟨th, 5, ad, a, b, vals, got, ok⟩ : Ax) = ⟨th, 5, ad, 0, 0, vals, 0, false⟩ ↔ RightA ⟨th, 5, ad, a, b, vals, got, ok⟩ := by simp [RightA]
theorem d_right (x : Ax) (p : Option Addr) (c : Nat) (W : World) (hu : URd W p x.vals) (hl : x.vals.length ≤ 1048576) :
    Calls Tryz.prog 34 #[.agg (bxA x (.slice p x.vals.length c))] W fun e W' => ∃ v, e = .returned v ∧ RightQ x v ∧ Below W.heap.size W W' := by
  obtain ⟨th, kind, ad, a, b, vals, got, ok⟩ := x
  simp only at hu hl ⊢
  by_cases k0 : kind = 0 ∨ 5 < kind
  · refine (d_right_no th kind ad a b got vals.length c p ok W k0).mono ?_
    rintro e W' ⟨rfl, hb⟩
    exact ⟨_, rfl, ⟨false, rfl, by simp only [Bool.false_eq_true, false_iff]; intro h; have := right_kind h; simp only at this; omega⟩, hb⟩
  · have hk : kind = 1 ∨ kind = 2 ∨ kind = 3 ∨ kind = 4 ∨ kind = 5 := by omega
    rcases hk with rfl | rfl | rfl | rfl | rfl
    · refine (d_right_1 th ad a b got vals.length vals rfl p c ok W hu hl).mono ?_
      rintro e W' ⟨v, rfl, ⟨r, rfl, hr⟩, hb⟩
      exact ⟨_, rfl, ⟨r, rfl, hr.trans right_eq1⟩, hb⟩
    · refine (d_right_2 th ad a b got vals.length vals rfl p c ok W hu hl).mono ?_
      rintro e W' ⟨v, rfl, ⟨r, rfl, hr⟩, hb⟩
      exact ⟨_, rfl, ⟨r, rfl, hr.trans right_eq2⟩, hb⟩
    · refine (d_right_3 th ad a b got vals.length vals rfl p c ok W hu hl).mono ?_
      rintro e W' ⟨v, rfl, ⟨r, rfl, hr⟩, hb⟩
      exact ⟨_, rfl, ⟨r, rfl, hr.trans right_eq3⟩, hb⟩
    · refine (d_right_4 th ad a b got vals.length vals rfl p c ok W hu hl).mono ?_
      rintro e W' ⟨v, rfl, ⟨r, rfl, hr⟩, hb⟩
      exact ⟨_, rfl, ⟨r, rfl, hr.trans right_eq4⟩, hb⟩
    · refine (d_right_5 th ad a b got vals.length vals rfl p c ok W hu hl).mono ?_
      rintro e W' ⟨v, rfl, ⟨r, rfl, hr⟩, hb⟩
      exact ⟨_, rfl, ⟨r, rfl, hr.trans right_eq5⟩, hb⟩

def NumQ (f : List UInt8) (v : Value) : Prop := ∃ u : Nat, v = .int .u64 (u : Int) ∧ isU u ∧ ∀ z, natP f = some z → u = z
def L0 (th : Int) (k ad : Nat) : List UInt8 := (((Lib.itoa th ++ [32]) ++ wordL k) ++ [32]) ++ Lib.decDigits ad
theorem l0_len {th : Int} {k ad : Nat} (h0 : -9223372036854775808 ≤ th) (h1 : th < 9223372036854775808) (h2 : isU ad) : (L0 th k ad).length ≤ 100 := by
  have a := Lib.itoa_length_le th h0 (by omega)
  have b := dec_len h2
  have c : (wordL k).length ≤ 5 := by unfold wordL; split <;> simp
  unfold L0
  simp only [List.length_append, List.length_cons, List.length_nil]
  omega
theorem line_1 (th : Int) (ad got : Nat) : lineA ⟨th, 1, ad, 0, 0, [], got, false⟩ = L0 th 1 ad ++ ([32] ++ Lib.decDigits got) := by simp [lineA, partsL, numsL, join_cc, Lib.join_one, L0]
theorem line_2 (th : Int) (ad a : Nat) : lineA ⟨th, 2, ad, a, 0, [], 0, false⟩ = L0 th 2 ad ++ ([32] ++ Lib.decDigits a) := by simp [lineA, partsL, numsL, join_cc, Lib.join_one, L0]
theorem line_3 (th : Int) (ad a b : Nat) (ok : Bool) : lineA ⟨th, 3, ad, a, b, [], 0, ok⟩ = (L0 th 3 ad ++ ((([32] ++ Lib.decDigits a) ++ [32]) ++ Lib.decDigits b)) ++ (32 :: okL ok) := by simp [lineA, partsL, numsL, join_cc, Lib.join_one, L0]
theorem line_4 (th : Int) (ad a got : Nat) : lineA ⟨th, 4, ad, a, 0, [], got, false⟩ = L0 th 4 ad ++ ((([32] ++ Lib.decDigits a) ++ [32]) ++ Lib.decDigits got) := by simp [lineA, partsL, numsL, join_cc, Lib.join_one, L0]
def vtail (vals : List Nat) : List UInt8 := (vals.map (fun u => [32] ++ Lib.decDigits u)).flatten
theorem line_5 (th : Int) (ad : Nat) (vals : List Nat) : lineA ⟨th, 5, ad, 0, 0, vals, 0, false⟩ = L0 th 5 ad ++ vtail vals := by
  have key : ∀ (fs : List (List UInt8)) (a : List UInt8), Lib.join (a :: fs) [32] = a ++ (fs.map (fun f => [32] ++ f)).flatten := by
    intro fs
    induction fs with
    | nil => intro a; simp [Lib.join_one]
    | cons b r ih => intro a; rw [join_cc, ih b]; simp
  simp [lineA, partsL, numsL, key, L0, vtail, List.map_map, Function.comp_def]
theorem vtail_succ {vals : List Nat} {i u : Nat} (h : vals[i]? = some u) : vtail (vals.take (i + 1)) = vtail (vals.take i) ++ ([32] ++ Lib.decDigits u) := by
  unfold vtail; rw [List.take_add_one, h]; simp
theorem vtail_len {vals : List Nat} (h : ∀ u ∈ vals, isU u) : (vtail vals).length ≤ vals.length * 22 := by
  induction vals with
  | nil => simp [vtail]
  | cons u r ih =>
    have a := dec_len (h u (by simp))
    have b := ih (fun v hv => h v (by simp [hv]))
    unfold vtail at b ⊢
    simp only [List.map_cons, List.flatten_cons, List.length_append, List.length_cons, List.length_nil] at b ⊢
    omega
/-- the first part of a line -/
theorem joins0 (th : Int) (k ad : Nat) (h0 : -9223372036854775808 ≤ th) (h1 : th < 9223372036854775808) (h2 : isU ad) : ∃ s1 s2 s3 : ByteArray,
    (∀ W, (Op.stringOp .add (mkS (Lib.itoa th)) ⟨#[32]⟩).run Tryz.prog W = .ok (.string s1) W) ∧ (∀ W, (Op.stringOp .add s1 (mkS (wordL k))).run Tryz.prog W = .ok (.string s2) W) ∧
    (∀ W, (Op.stringOp .add s2 ⟨#[32]⟩).run Tryz.prog W = .ok (.string s3) W) ∧ (∀ W, (Op.stringOp .add s3 (mkS (Lib.decDigits ad))).run Tryz.prog W = .ok (.string (mkS (L0 th k ad))) W) := by
  have a := Lib.itoa_length_le th h0 (by omega)
  have b := dec_len h2
  have c : (wordL k).length ≤ 5 := by unfold wordL; split <;> simp
  refine ⟨_, _, _, add_str _ [32] (by simp; omega), add_str _ _ (by simp; omega), add_str _ [32] (by simp; omega), fun W => ?_⟩
  exact add_str _ _ (by simp; omega) W

end Go.Proofs.YtjodechhnobkhaaGreatDoor
