/- Put, Delete and Swap on keys of two kinds. -/
import Derived.Test.YtnlkdibalhgipaaNk
import Derived.Test.YtnlkdibalhgipaaNmc
namespace Go.Proofs.Ytnlkdibalhgipaa
open Go.RowKit Go.Maps
set_option linter.unusedVariables false

/-- What an operation makes of the value at a key. -/
def vst (x : Nat) (y : Option Nat) (o : OpP) : Option Nat :=
  if o.k = x then (if o.kd = 2 then some o.v else if o.kd = 3 then none else if o.kd = 4 then (if y = some o.od then some o.v else y) else y) else y
def kst (f : Nat → Option Nat) (o : OpP) : Nat → Option Nat := fun x => vst x (f x) o
theorem kst_fold (l : List OpP) : ∀ (f : Nat → Option Nat) (x : Nat), (l.foldl kst f) x = l.foldl (vst x) (f x) := by
  induction l with
  | nil => intro f x; rfl
  | cons o l ih => intro f x; exact ih (kst f o) x
theorem vst_filter (x : Nat) (l : List OpP) : ∀ y, l.foldl (vst x) y = (l.filter (fun o => o.k == x)).foldl (vst x) y := by
  induction l with
  | nil => intro y; rfl
  | cons o l ih =>
    intro y
    by_cases h : o.k = x
    · rw [List.filter_cons_of_pos (by simpa using h)]
      exact ih _
    · rw [List.filter_cons_of_neg (by simpa using h)]
      have e : vst x y o = y := if_neg h
      rw [List.foldl_cons, e]
      exact ih y
def evs (l : List OpP) : List OpP := l.filter (fun o => o.k % 2 == 0)
def ods (l : List OpP) : List OpP := l.filter (fun o => o.k % 2 == 1)
theorem kst_parts (l : List OpP) (f : Nat → Option Nat) : (ods l).foldl kst ((evs l).foldl kst f) = l.foldl kst f := by
  funext x
  rw [← List.foldl_append, kst_fold, kst_fold, vst_filter, vst_filter x l, List.filter_append]
  congr 1
  unfold evs ods
  rw [List.filter_filter, List.filter_filter]
  rcases Nat.mod_two_eq_zero_or_one x with m | m
  · have e1 : l.filter (fun a => (a.k == x) && (a.k % 2 == 0)) = l.filter (fun o => o.k == x) := List.filter_congr (fun a _ => by
      by_cases q : a.k = x
      · subst q; simp [m]
      · simp [q])
    have e2 : l.filter (fun a => (a.k == x) && (a.k % 2 == 1)) = [] := List.filter_eq_nil_iff.2 (fun a _ => by
      by_cases q : a.k = x
      · subst q; simp [m]
      · simp [q])
    rw [e1, e2, List.append_nil]
  · have e1 : l.filter (fun a => (a.k == x) && (a.k % 2 == 1)) = l.filter (fun o => o.k == x) := List.filter_congr (fun a _ => by
      by_cases q : a.k = x
      · subst q; simp [m]
      · simp [q])
    have e2 : l.filter (fun a => (a.k == x) && (a.k % 2 == 0)) = [] := List.filter_eq_nil_iff.2 (fun a _ => by
      by_cases q : a.k = x
      · subst q; simp [m]
      · simp [q])
    rw [e1, e2, List.nil_append]
theorem kst_else (f : Nat → Option Nat) (o : OpP) (h : ¬ (2 ≤ o.kd ∧ o.kd ≤ 4)) : kst f o = f := by
  funext x
  unfold kst vst
  have h2 : ¬ o.kd = 2 := by omega
  have h3 : ¬ o.kd = 3 := by omega
  have h4 : ¬ o.kd = 4 := by omega
  rw [if_neg h2, if_neg h3, if_neg h4]
  split <;> rfl
theorem kst_do (mu : Nat) (f : Nat → Option Nat) (pc : Nat → Option (Nat → Option Nat)) (o : OpP) (th : Nat) (h : 2 ≤ o.kd ∧ o.kd ≤ 4) : doF o (tellP mu f pc o th) f = kst f o := by
  funext x
  by_cases k2 : o.kd = 2
  · have k4 : ¬ o.kd = 4 := by omega
    have e : tellP mu f pc o th = ⟨0, (f o.k).isSome, (f o.k).getD 0, false, 0, [], 0⟩ := by
      unfold tellP
      rw [if_neg k4, if_pos (by simp [k2])]
    have ev : kst f o x = if o.k = x then some o.v else f x := by unfold kst vst; rw [if_pos k2]
    rw [e, ev]
    unfold doF
    rw [if_pos ⟨rfl, .inl k2⟩]
    by_cases e : o.k = x
    · subst e; rw [updO_same, if_pos rfl]
    · rw [updO_other _ _ (Ne.symm e), if_neg e]
  · by_cases k3 : o.kd = 3
    · have k4 : ¬ o.kd = 4 := by omega
      have e : tellP mu f pc o th = ⟨0, (f o.k).isSome, (f o.k).getD 0, false, 0, [], 0⟩ := by
        unfold tellP
        rw [if_neg k4, if_pos (by simp [k3])]
      have ev : kst f o x = if o.k = x then none else f x := by unfold kst vst; rw [if_neg k2, if_pos k3]
      rw [e, ev]
      unfold doF
      rw [if_neg (by simp [k2]), if_pos ⟨rfl, k3⟩]
      by_cases e : o.k = x
      · subst e; rw [updO_same, if_pos rfl]
      · rw [updO_other _ _ (Ne.symm e), if_neg e]
    · have k4 : o.kd = 4 := by omega
      have e : tellP mu f pc o th = ⟨0, (f o.k).isSome, (f o.k).getD 0, decide (f o.k = some o.od), 0, [], 0⟩ := by
        unfold tellP
        rw [if_pos k4]
      have ev : kst f o x = if o.k = x then (if f x = some o.od then some o.v else f x) else f x := by unfold kst vst; rw [if_neg k2, if_neg k3, if_pos k4]
      rw [e, ev]
      unfold doF
      by_cases q : f o.k = some o.od
      · rw [if_pos ⟨rfl, .inr ⟨k4, by simp [q]⟩⟩]
        by_cases e : o.k = x
        · subst e; rw [updO_same, if_pos rfl, if_pos q]
        · rw [updO_other _ _ (Ne.symm e), if_neg e]
      · rw [if_neg (by simp [k2, q]), if_neg (by simp [k3])]
        by_cases e : o.k = x
        · subst e; rw [if_pos rfl, if_neg q]
        · rw [if_neg e]
def noH : Nat → Option Nat := fun _ => none
theorem pcs_no (g g' : Nat → Nat → Option Nat) : pcs noH g = pcs noH g' := rfl
/-- An operation as it lies in memory. -/
structure OpI where
  o : OpP
  r5 : Bool
  r6 : Int
  r7 : Int
  kp : Option Addr
  kc : Nat
def OpI.cs (x : OpI) : List Value := [.int .u8 x.o.kd, .int .u64 (x.o.k : Int), .int .u64 (x.o.v : Int), .int .u64 (x.o.od : Int), .int .u64 (x.o.hk : Int), .bool x.r5, .int .i64 x.r6, .int .i64 x.r7, .slice x.kp x.o.ks.length x.kc, .int .u64 (x.o.lo : Int), .int .u64 (x.o.hi : Int)]
structure OpI.Ok (W : World) (x : OpI) : Prop where
  ok : x.o.Ok
  ks : KeysAt W x.kp x.o.ks
def OpsAt (W : World) (p : Option Addr) (l : List OpI) : Prop := l = [] ∨ ∃ bk off, p = some ⟨bk, off, none⟩ ∧ bk < W.heap.size ∧ ∀ (i : Nat) (x : OpI), l[i]? = some x → x.Ok W ∧ ∀ j v, x.cs[j]? = some v → W.cell? ⟨bk, off + i * 11 + j, none⟩ = some v
theorem Do_k {x : OpI} {W : World} (hx : x.Ok W) {w : World} (hw : Chg (fun _ => False) W w) {m nw hd mu : Nat} {f : Nat → Option Nat} {g : Nat → Nat → Option Nat} {n : Nat} (H : MoAt w m nw hd mu f noH g n) (hmu : mu ≤ 1024) (hn : n ≤ 8796093022000) (hk : 2 ≤ x.o.kd ∧ x.o.kd ≤ 4) :
    Calls Try.prog 5 #[.pointer (some ⟨m, 0, none⟩), .agg #[.int .u8 x.o.kd, .int .u64 (x.o.k : Int), .int .u64 (x.o.v : Int), .int .u64 (x.o.od : Int), .int .u64 (x.o.hk : Int), .bool x.r5, .int .i64 x.r6, .int .i64 x.r7, .slice x.kp x.o.ks.length x.kc, .int .u64 (x.o.lo : Int), .int .u64 (x.o.hi : Int)], .int .u64 0] w fun e w' => (∃ u, e = .returned (.agg u)) ∧ (∃ g', MoAt w' m nw hd mu (kst f x.o) noH g' (n + 1)) ∧ Chg (fun i => i = nw ∨ i = hd) w w' := by
  refine (Do_all hx.ok (th := 0) (by omega) H hmu hn (hx.ks.chg hw (fun _ _ _ x => x)) rfl).mono ?_
  rintro e w' ⟨⟨p, c, rfl, _⟩, ⟨cl, hcl, hM⟩, hc⟩
  rw [kst_do mu f _ x.o 0 hk] at hM
  have e : doH x.o (tellP mu f (pcs noH g) x.o 0) cl noH = noH := by
    unfold doH
    rw [if_neg (by omega), if_neg (by omega)]
  rw [e] at hM
  exact ⟨⟨_, rfl⟩, ⟨_, hM⟩, hc⟩
end Go.Proofs.Ytnlkdibalhgipaa
