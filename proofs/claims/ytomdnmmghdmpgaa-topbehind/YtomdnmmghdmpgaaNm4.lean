/- Nothing: stands for what a seat without maps.Equal lacks. -/
import Derived.Test.YtomdnmmghdmpgaaNk
/- Content, Held, Fork and Same of any model. -/
namespace Go.Proofs.Ytomdnmmghdmpgaa
open Go.RowKit Go.Maps
set_option linter.unusedVariables false

set_option maxRecDepth 100000 in
theorem m_content {W : World} {m nw hd mu : Nat} {f h : Nat → Option Nat} {g : Nat → Nat → Option Nat} {n : Nat} (H : MoAt W m nw hd mu f h g n) (hn : n ≤ 8796093022000) :
    Calls Try.prog 6 #[.pointer (some ⟨m, 0, none⟩)] W fun e W' => (∃ p c l, e = .returned (.slice p l.length c) ∧ Lists f 0 18446744073709551615 l ∧ PairsAt W' p l ∧ (∀ bk off, p = some ⟨bk, off, none⟩ → W.heap.size ≤ bk) ∧ l.length ≤ n) ∧ Chg (fun _ => False) W W' := by
  have HB := keepH (c_all H.now hn)
  have c1 : W.cell? ⟨m, 1, none⟩ = some (.map (some nw)) := cell_of H.md 1
  clear H
  go_enter Try.func6, Try.ntmps6
  go_wp2_with fail
  refine HB.out.mono ?_
  rintro e w1 ⟨⟨v, l, rfl, h1, h2, h3⟩, h4⟩
  obtain ⟨p, c, rfl, hP, hB⟩ := h2.slice
  have HZ : Hid (Lists f 0 18446744073709551615 l ∧ PairsAt w1 p l ∧ (∀ bk off, p = some ⟨bk, off, none⟩ → W.heap.size ≤ bk) ∧ l.length ≤ n) := ⟨h1, hP, hB, h3⟩
  have HC := keepH h4
  clear h1 h2 h3 h4 hP hB
  go_wp2_with fail
  go_ret
  exact ⟨⟨p, c, l, rfl, HZ.out⟩, HC.out⟩
set_option maxRecDepth 100000 in
theorem m_heldN {W : World} {m nw hd mu : Nat} {f h : Nat → Option Nat} {g : Nat → Nat → Option Nat} {n : Nat} (H : MoAt W m nw hd mu f h g n) {k : Nat} (hk : k < 18446744073709551616) (hh : h k = none) :
    Calls Try.prog 8 #[.pointer (some ⟨m, 0, none⟩), .int .u64 (k : Int)] W fun e W' => e = .returned (.tuple #[.slice none 0 0, .bool false]) ∧ W' = W := by
  have HH := keepH (holds_g H hk)
  rw [hh] at HH
  clear H
  go_enter Try.func8, Try.ntmps8
  go_wp2_with fail
  refine HH.out.mono ?_
  rintro e w1 ⟨rfl, rfl⟩
  go_wp2_with fail
  go_ret2
  exact ⟨by simp, rfl⟩
set_option maxRecDepth 100000 in
theorem m_heldS {W : World} {m nw hd mu : Nat} {f h : Nat → Option Nat} {g : Nat → Nat → Option Nat} {n : Nat} (H : MoAt W m nw hd mu f h g n) (hn : n ≤ 8796093022000) {k b : Nat} (hk : k < 18446744073709551616) (hh : h k = some b) :
    Calls Try.prog 8 #[.pointer (some ⟨m, 0, none⟩), .int .u64 (k : Int)] W fun e W' => (∃ p c l, e = .returned (.tuple #[.slice p l.length c, .bool true]) ∧ Lists (g b) 0 18446744073709551615 l ∧ PairsAt W' p l ∧ l.length ≤ n) ∧ Chg (fun _ => False) W W' := by
  have HH := keepH (holds_g H hk)
  have HB := keepH (c_all (H.pic k b hh) hn)
  have hl2 := HeldAt.look1 H.held hk
  rw [hh] at HH hl2
  have c2 : W.cell? ⟨m, 2, none⟩ = some (.map (some hd)) := cell_of H.md 2
  clear H
  go_enter Try.func8, Try.ntmps8
  go_wp2_with fail
  refine HH.out.mono ?_
  rintro e w1 ⟨rfl, rfl⟩
  go_wp2_with fail
  refine HB.out.mono ?_
  rintro e w2 ⟨⟨v, l, rfl, h1, h2, h3⟩, h4⟩
  obtain ⟨p, c, rfl, hP, hB⟩ := h2.slice
  have HZ : Hid (Lists (g b) 0 18446744073709551615 l ∧ PairsAt w2 p l ∧ l.length ≤ n) := ⟨h1, hP, h3⟩
  have HC := keepH h4
  clear h1 h2 h3 h4 hP hB
  go_wp2_with fail
  go_ret2
  exact ⟨⟨p, c, l, by simp, HZ.out⟩, HC.out⟩
theorem fork_end {W z1 z2 z : World} {m nw hd mu a b : Nat} {f h : Nat → Option Nat} {g : Nat → Nat → Option Nat} {n : Nat} (H : MoAt W m nw hd mu f h g n) (ha : MapAt z a n f) (hb : HeldAt z b n h) (hc : Chg (fun _ => False) W z) (h1 : W.heap.size ≤ a) (h2 : W.heap.size ≤ b) (h3 : a ≠ b) :
    MoAt (z.alloc (.cells #[.int .i64 (mu : Int), .map (some a), .map (some b)] 56)) z.heap.size a b mu f h g n := by
  have hq : Chg (fun _ => False) z (z.alloc (.cells #[.int .i64 (mu : Int), .map (some a), .map (some b)] 56)) := (Chg.refl _ _).alloc _
  have la := MapR.lt ha
  have lb := MapR.lt hb
  refine ⟨heap_alloc_new _ _, MapR.chg ha hq (fun x => x), MapR.chg hb hq (fun x => x), fun k c hk => MapR.chg (MapR.chg (H.pic k c hk) hc (fun x => x)) hq (fun x => x), by omega, by omega, h3, fun k c hk => ?_⟩
  have := H.blk.2.2.2 k c hk
  omega
end Go.Proofs.Ytomdnmmghdmpgaa
/- Put, Delete and Swap on keys of two kinds. -/
namespace Go.Proofs.Ytomdnmmghdmpgaa
open Go.RowKit Go.Maps
set_option linter.unusedVariables false

/-- What an operation makes of the value at a key. -/
def vst (x : Nat) (y : Option Nat) (o : OpP) : Option Nat :=
  if o.k = x then (if o.kd = 2 then some o.v else if o.kd = 3 then none else if o.kd = 4 then (if y = some o.od then some o.v else y) else y) else y
def kst (f : Nat → Option Nat) (o : OpP) : Nat → Option Nat := fun x => vst x (f x) o
theorem kst_fold (l : List OpP) : ∀ (f : Nat → Option Nat) (x : Nat), (l.foldl kst f) x = l.foldl (vst x) (f x) := by
  induction l with
  | nil => intro f x; rfl
  | cons o l ih => intro f x; exact ih (kst f o) x
theorem vst_filter (x : Nat) (l : List OpP) : ∀ y, l.foldl (vst x) y = (l.filter (fun o => o.k == x)).foldl (vst x) y := by
  induction l with
  | nil => intro y; rfl
  | cons o l ih =>
    intro y
    by_cases h : o.k = x
    · rw [List.filter_cons_of_pos (by simpa using h)]
      exact ih _
    · rw [List.filter_cons_of_neg (by simpa using h)]
      have e : vst x y o = y := if_neg h
      rw [List.foldl_cons, e]
      exact ih y
def evs (l : List OpP) : List OpP := l.filter (fun o => o.k % 2 == 0)
def ods (l : List OpP) : List OpP := l.filter (fun o => o.k % 2 == 1)
theorem kst_parts (l : List OpP) (f : Nat → Option Nat) : (ods l).foldl kst ((evs l).foldl kst f) = l.foldl kst f := by
  funext x
  rw [← List.foldl_append, kst_fold, kst_fold, vst_filter, vst_filter x l, List.filter_append]
  congr 1
  unfold evs ods
  rw [List.filter_filter, List.filter_filter]
  rcases Nat.mod_two_eq_zero_or_one x with m | m
  · have e1 : l.filter (fun a => (a.k == x) && (a.k % 2 == 0)) = l.filter (fun o => o.k == x) := List.filter_congr (fun a _ => by
      by_cases q : a.k = x
      · subst q; simp [m]
      · simp [q])
    have e2 : l.filter (fun a => (a.k == x) && (a.k % 2 == 1)) = [] := List.filter_eq_nil_iff.2 (fun a _ => by
      by_cases q : a.k = x
      · subst q; simp [m]
      · simp [q])
    rw [e1, e2, List.append_nil]
  · have e1 : l.filter (fun a => (a.k == x) && (a.k % 2 == 1)) = l.filter (fun o => o.k == x) := List.filter_congr (fun a _ => by
      by_cases q : a.k = x
      · subst q; simp [m]
      · simp [q])
    have e2 : l.filter (fun a => (a.k == x) && (a.k % 2 == 0)) = [] := List.filter_eq_nil_iff.2 (fun a _ => by
      by_cases q : a.k = x
      · subst q; simp [m]
      · simp [q])
    rw [e1, e2, List.nil_append]
theorem kst_else (f : Nat → Option Nat) (o : OpP) (h : ¬ (2 ≤ o.kd ∧ o.kd ≤ 4)) : kst f o = f := by
  funext x
  unfold kst vst
  have h2 : ¬ o.kd = 2 := by omega
  have h3 : ¬ o.kd = 3 := by omega
  have h4 : ¬ o.kd = 4 := by omega
  rw [if_neg h2, if_neg h3, if_neg h4]
  split <;> rfl
theorem kst_do (mu : Nat) (f : Nat → Option Nat) (pc : Nat → Option (Nat → Option Nat)) (o : OpP) (th : Nat) (h : 2 ≤ o.kd ∧ o.kd ≤ 4) : doF o (tellP mu f pc o th) f = kst f o := by
  funext x
  by_cases k2 : o.kd = 2
  · have k4 : ¬ o.kd = 4 := by omega
    have e : tellP mu f pc o th = ⟨0, (f o.k).isSome, (f o.k).getD 0, false, 0, [], 0⟩ := by
      unfold tellP
      rw [if_neg k4, if_pos (by simp [k2])]
    have ev : kst f o x = if o.k = x then some o.v else f x := by unfold kst vst; rw [if_pos k2]
    rw [e, ev]
    unfold doF
    rw [if_pos ⟨rfl, .inl k2⟩]
    by_cases e : o.k = x
    · subst e; rw [updO_same, if_pos rfl]
    · rw [updO_other _ _ (Ne.symm e), if_neg e]
  · by_cases k3 : o.kd = 3
    · have k4 : ¬ o.kd = 4 := by omega
      have e : tellP mu f pc o th = ⟨0, (f o.k).isSome, (f o.k).getD 0, false, 0, [], 0⟩ := by
        unfold tellP
        rw [if_neg k4, if_pos (by simp [k3])]
      have ev : kst f o x = if o.k = x then none else f x := by unfold kst vst; rw [if_neg k2, if_pos k3]
      rw [e, ev]
      unfold doF
      rw [if_neg (by simp [k2]), if_pos ⟨rfl, k3⟩]
      by_cases e : o.k = x
      · subst e; rw [updO_same, if_pos rfl]
      · rw [updO_other _ _ (Ne.symm e), if_neg e]
    · have k4 : o.kd = 4 := by omega
      have e : tellP mu f pc o th = ⟨0, (f o.k).isSome, (f o.k).getD 0, decide (f o.k = some o.od), 0, [], 0⟩ := by
        unfold tellP
        rw [if_pos k4]
      have ev : kst f o x = if o.k = x then (if f x = some o.od then some o.v else f x) else f x := by unfold kst vst; rw [if_neg k2, if_neg k3, if_pos k4]
      rw [e, ev]
      unfold doF
      by_cases q : f o.k = some o.od
      · rw [if_pos ⟨rfl, .inr ⟨k4, by simp [q]⟩⟩]
        by_cases e : o.k = x
        · subst e; rw [updO_same, if_pos rfl, if_pos q]
        · rw [updO_other _ _ (Ne.symm e), if_neg e]
      · rw [if_neg (by simp [k2, q]), if_neg (by simp [k3])]
        by_cases e : o.k = x
        · subst e; rw [if_pos rfl, if_neg q]
        · rw [if_neg e]
def noH : Nat → Option Nat := fun _ => none
theorem pcs_no (g g' : Nat → Nat → Option Nat) : pcs noH g = pcs noH g' := rfl
/-- An operation as it lies in memory. -/
structure OpI where
  o : OpP
  r5 : Bool
  r6 : Int
  r7 : Int
  kp : Option Addr
  kc : Nat
def OpI.cs (x : OpI) : List Value := [.int .u8 x.o.kd, .int .u64 (x.o.k : Int), .int .u64 (x.o.v : Int), .int .u64 (x.o.od : Int), .int .u64 (x.o.hk : Int), .bool x.r5, .int .i64 x.r6, .int .i64 x.r7, .slice x.kp x.o.ks.length x.kc, .int .u64 (x.o.lo : Int), .int .u64 (x.o.hi : Int)]
structure OpI.Ok (W : World) (x : OpI) : Prop where
  ok : x.o.Ok
  ks : KeysAt W x.kp x.o.ks
def OpsAt (W : World) (p : Option Addr) (l : List OpI) : Prop := l = [] ∨ ∃ bk off, p = some ⟨bk, off, none⟩ ∧ bk < W.heap.size ∧ ∀ (i : Nat) (x : OpI), l[i]? = some x → x.Ok W ∧ ∀ j v, x.cs[j]? = some v → W.cell? ⟨bk, off + i * 11 + j, none⟩ = some v
theorem Do_k {x : OpI} {W : World} (hx : x.Ok W) {w : World} (hw : Chg (fun _ => False) W w) {m nw hd mu : Nat} {f : Nat → Option Nat} {g : Nat → Nat → Option Nat} {n : Nat} (H : MoAt w m nw hd mu f noH g n) (hmu : mu ≤ 1024) (hn : n ≤ 8796093022000) (hk : 2 ≤ x.o.kd ∧ x.o.kd ≤ 4) :
    Calls Try.prog 5 #[.pointer (some ⟨m, 0, none⟩), .agg #[.int .u8 x.o.kd, .int .u64 (x.o.k : Int), .int .u64 (x.o.v : Int), .int .u64 (x.o.od : Int), .int .u64 (x.o.hk : Int), .bool x.r5, .int .i64 x.r6, .int .i64 x.r7, .slice x.kp x.o.ks.length x.kc, .int .u64 (x.o.lo : Int), .int .u64 (x.o.hi : Int)], .int .u64 0] w fun e w' => (∃ u, e = .returned (.agg u)) ∧ (∃ g', MoAt w' m nw hd mu (kst f x.o) noH g' (n + 1)) ∧ Chg (fun i => i = nw ∨ i = hd) w w' := by
  refine (Do_all hx.ok (th := 0) (by omega) H hmu hn (hx.ks.chg hw (fun _ _ _ x => x)) rfl).mono ?_
  rintro e w' ⟨⟨p, c, rfl, _⟩, ⟨cl, hcl, hM⟩, hc⟩
  rw [kst_do mu f _ x.o 0 hk] at hM
  have e : doH x.o (tellP mu f (pcs noH g) x.o 0) cl noH = noH := by
    unfold doH
    rw [if_neg (by omega), if_neg (by omega)]
  rw [e] at hM
  exact ⟨⟨_, rfl⟩, ⟨_, hM⟩, hc⟩
end Go.Proofs.Ytomdnmmghdmpgaa
/- ModelKeys: the whole walk. -/
namespace Go.Proofs.Ytomdnmmghdmpgaa
open Go.RowKit Go.Maps
set_option linter.unusedVariables false

theorem meas {i n : Nat} (h : i < n) : n - natOf (.int .i64 ((i : Int) + 1)) < n - natOf (.int .i64 (i : Int)) := by
  have e1 : natOf (.int .i64 ((i : Int) + 1)) = i + 1 := by show ((i : Int) + 1).toNat = i + 1; omega
  have e2 : natOf (.int .i64 (i : Int)) = i := by show ((i : Int)).toNat = i; omega
  rw [e1, e2]
  omega
theorem measU {i n : Nat} (h : i < n) : n - natOf (.int .u64 ((i : Int) + 1)) < n - natOf (.int .u64 (i : Int)) := meas h
theorem meas2 {i n : Nat} (h : i < n) : n + 1 - natOf (.int .i64 ((i : Int) + 1 + 1)) < n + 1 - natOf (.int .i64 ((i : Int) + 1)) := by
  have e1 : natOf (.int .i64 ((i : Int) + 1 + 1)) = i + 2 := by show ((i : Int) + 1 + 1).toNat = i + 2; omega
  have e2 : natOf (.int .i64 ((i : Int) + 1)) = i + 1 := by show ((i : Int) + 1).toNat = i + 1; omega
  rw [e1, e2]
  omega
structure AB (W wr : World) (ma na ha mb nb hb : Nat) (fa fb : Nat → Option Nat) (n : Nat) : Prop where
  a : ∃ g, MoAt wr ma na ha 1 fa noH g n
  b : ∃ g, MoAt wr mb nb hb 1 fb noH g n
  ga : W.heap.size ≤ ma ∧ W.heap.size ≤ na ∧ W.heap.size ≤ ha
  gb : W.heap.size ≤ mb ∧ W.heap.size ≤ nb ∧ W.heap.size ≤ hb
  d1 : ma ≠ nb ∧ ma ≠ hb ∧ na ≠ nb ∧ na ≠ hb ∧ ha ≠ nb ∧ ha ≠ hb
  d2 : mb ≠ na ∧ mb ≠ ha
  chg : Chg (fun _ => False) W wr
theorem noH_any {F : Nat → Prop} : ∀ k b, noH k = some b → ¬ F b := fun k b h => by cases h
theorem AB.quiet {W wr wx : World} {ma na ha mb nb hb : Nat} {fa fb : Nat → Option Nat} {n : Nat} (h : AB W wr ma na ha mb nb hb fa fb n) (c : Chg (fun _ => False) wr wx) : AB W wx ma na ha mb nb hb fa fb n := by
  obtain ⟨g, hg⟩ := h.a
  obtain ⟨g', hg'⟩ := h.b
  exact ⟨⟨g, hg.quiet c⟩, ⟨g', hg'.quiet c⟩, h.ga, h.gb, h.d1, h.d2, h.chg.trans c (fun _ _ x => x) (fun _ _ x => x)⟩
theorem AB.mono {W wr : World} {ma na ha mb nb hb : Nat} {fa fb : Nat → Option Nat} {n n' : Nat} (h : AB W wr ma na ha mb nb hb fa fb n) (hn : n ≤ n') : AB W wr ma na ha mb nb hb fa fb n' := by
  obtain ⟨g, hg⟩ := h.a
  obtain ⟨g', hg'⟩ := h.b
  exact ⟨⟨g, hg.mono hn⟩, ⟨g', hg'.mono hn⟩, h.ga, h.gb, h.d1, h.d2, h.chg⟩
theorem AB.stepA {W wr wx : World} {ma na ha mb nb hb : Nat} {fa fb fa' : Nat → Option Nat} {n : Nat} (h : AB W wr ma na ha mb nb hb fa fb n) (ha' : ∃ g', MoAt wx ma na ha 1 fa' noH g' (n + 1)) (c : Chg (fun i => i = na ∨ i = ha) wr wx) : AB W wx ma na ha mb nb hb fa' fb (n + 1) := by
  obtain ⟨g', hg'⟩ := h.b
  have d1 := h.d1
  have d2 := h.d2
  refine ⟨ha', ⟨g', (hg'.chg c (by omega) (by omega) (by omega) noH_any).mono (Nat.le_succ n)⟩, h.ga, h.gb, h.d1, h.d2, h.chg.trans c (fun _ _ x => x) (fun i hi e => by have := h.ga; omega)⟩
theorem AB.stepB {W wr wx : World} {ma na ha mb nb hb : Nat} {fa fb fb' : Nat → Option Nat} {n : Nat} (h : AB W wr ma na ha mb nb hb fa fb n) (hb' : ∃ g', MoAt wx mb nb hb 1 fb' noH g' (n + 1)) (c : Chg (fun i => i = nb ∨ i = hb) wr wx) : AB W wx ma na ha mb nb hb fa fb' (n + 1) := by
  obtain ⟨g', hg'⟩ := h.a
  have d1 := h.d1
  refine ⟨⟨g', (hg'.chg c (by omega) (by omega) (by omega) noH_any).mono (Nat.le_succ n)⟩, hb', h.ga, h.gb, h.d1, h.d2, h.chg.trans c (fun _ _ x => x) (fun i hi e => by have := h.gb; omega)⟩
def kOf (l : List OpI) : List OpP := l.map OpI.o
def kind2 (d : Nat) (l : List OpI) : List OpP := (kOf l).filter (fun o => o.k % 2 == d)
theorem kOf_add (l : List OpI) (i : Nat) (x : OpI) (h : l[i]? = some x) : kOf (l.take (i + 1)) = kOf (l.take i) ++ [x.o] := by
  rw [List.take_add_one, h]
  simp [kOf]
theorem kind2_add (d : Nat) (l : List OpI) (i : Nat) (x : OpI) (h : l[i]? = some x) : kind2 d (l.take (i + 1)) = kind2 d (l.take i) ++ (if x.o.k % 2 = d then [x.o] else []) := by
  unfold kind2
  rw [kOf_add l i x h, List.filter_append]
  congr 1
  by_cases q : x.o.k % 2 = d
  · simp [q]
  · simp [q]
def fbOf (l : List OpI) (d : Nat) : Nat → Option Nat := if d = 0 then noH else if d = 1 then (kind2 0 l).foldl kst noH else (kind2 1 l).foldl kst ((kind2 0 l).foldl kst noH)
theorem fbOf_add (l : List OpI) (d : Nat) (hd : d < 2) : fbOf l (d + 1) = (kind2 d l).foldl kst (fbOf l d) := by
  rcases (show d = 0 ∨ d = 1 by omega) with rfl | rfl
  · simp [fbOf]
  · simp [fbOf]
theorem fbOf_end (l : List OpI) : fbOf l 2 = (kOf l).foldl kst noH := kst_parts (kOf l) noH
theorem OpsAt.get {W wr : World} {p : Option Addr} {l : List OpI} (h : OpsAt W p l) (c : Chg (fun _ => False) W wr) {i : Nat} {x : OpI} (hx : l[i]? = some x) : ∃ bk off, p = some ⟨bk, off, none⟩ ∧ x.Ok W ∧ ∀ j v, x.cs[j]? = some v → wr.cell? ⟨bk, off + i * 11 + j, none⟩ = some v := by
  rcases h with rfl | ⟨bk, off, rfl, _, h⟩
  · simp at hx
  · obtain ⟨h1, h2⟩ := h i x hx
    exact ⟨bk, off, rfl, h1, fun j v hj => cell_chg c (h2 j v hj) (fun x => x)⟩
end Go.Proofs.Ytomdnmmghdmpgaa
