/- Binary search in a sorted row. -/
import Derived.Test.YtmjjaadliebgoaaOc
namespace Go.Proofs.Ytmjjaadliebgoaa
open Go.RowKit
set_option linter.unusedVariables false

theorem count_split {α : Type} (p : α → Bool) (l : List α) : ∀ (i : Nat), i ≤ l.length → (∀ (j : Nat) (x : α), l[j]? = some x → (p x = true ↔ j < i)) → l.countP p = i := by
  induction l with
  | nil => intro i hi _; simp at hi; simp [hi]
  | cons a l ih =>
    intro i hi h
    have h0 := h 0 a rfl
    cases i with
    | zero =>
      have e := ih 0 (by omega) (fun j x hx => (h (j + 1) x (by simpa using hx)).trans (by constructor <;> intro q <;> omega))
      rw [List.countP_cons, e, if_neg (by rw [h0]; omega)]
    | succ i =>
      have e := ih i (by simp at hi; omega) (fun j x hx => (h (j + 1) x (by simpa using hx)).trans (by constructor <;> intro q <;> omega))
      rw [List.countP_cons, e, if_pos (by rw [h0]; omega)]
def Rises (l : List Int) : Prop := ∀ (i j : Nat) (x y : Int), i ≤ j → l[i]? = some x → l[j]? = some y → x ≤ y
theorem count_cut {l : List Int} {p : Int → Bool} (hs : Rises l) (hp : ∀ x y, x ≤ y → p y = true → p x = true) {i : Nat} (hi : i ≤ l.length) (h1 : ∀ (j : Nat) x, l[j]? = some x → j < i → p x = true) (h2 : ∀ (j : Nat) x, l[j]? = some x → i ≤ j → p x = false) : l.countP p = i :=
  count_split p l i hi fun j x hx => by
    by_cases c : j < i
    · simp [h1 j x hx c, c]
    · simp [h2 j x hx (by omega), c]

set_option maxRecDepth 100000 in
theorem nan_i (x : Int) (W : World) : Calls Try.prog 42 #[.int .i64 x] W fun e W' => e = .returned (.bool false) ∧ W' = W := by
  go_enter Try.func42, Try.ntmps42
  go_wp2_with fail
  go_ret
  exact ⟨by simp, rfl⟩
set_option maxRecDepth 100000 in
theorem nan_c (x : Int) (W : World) : Calls Try.prog 51 #[.int .i64 x] W fun e W' => e = .returned (.bool false) ∧ W' = W := by
  go_enter Try.func51, Try.ntmps51
  go_wp2_with fail
  go_ret
  exact ⟨by simp, rfl⟩
set_option maxRecDepth 100000 in
theorem less_i (x y : Int) (W : World) : Calls Try.prog 37 #[.int .i64 x, .int .i64 y] W fun e W' => e = .returned (.bool (decide (x < y))) ∧ W' = W := by
  go_enter Try.func37, Try.ntmps37
  go_wp2_with fail
  refine (nan_c x _).mono ?_
  rintro e w ⟨rfl, rfl⟩
  go_wp2_with fail
  go_ret
  exact ⟨by simp, rfl⟩
set_option maxRecDepth 100000 in
theorem up_1 (x y : Int) (W : World) : Calls Try.prog 44 #[.int .i64 x, .int .i64 y] W fun e W' => e = .returned (.int .i64 (if x ≤ y then -1 else 1)) ∧ W' = W := by
  by_cases c : x ≤ y
  · go_enter Try.func44, Try.ntmps44
    go_wp2_with fail
    go_ret
    exact ⟨by simp, rfl⟩
  · go_enter Try.func44, Try.ntmps44
    go_wp2_with fail
    go_ret
    exact ⟨by simp, rfl⟩
structure BS (l : List Int) (p : Int → Bool) (i j : Nat) : Prop where
  le : i ≤ j
  top : j ≤ l.length
  lo : ∀ (k : Nat) x, l[k]? = some x → k < i → p x = true
  hi : ∀ (k : Nat) x, l[k]? = some x → j ≤ k → p x = false
theorem BS.up {l : List Int} {p : Int → Bool} {i j h : Nat} {x : Int} (s : BS l p i j) (hs : Rises l) (hp : ∀ x y, x ≤ y → p y = true → p x = true) (hx : l[h]? = some x) (hj : h < j) (e : p x = true) : BS l p (h + 1) j :=
  ⟨hj, s.top, fun k y hy hk => hp y x (hs k h y x (by omega) hy hx) e, s.hi⟩
theorem BS.down {l : List Int} {p : Int → Bool} {i j h : Nat} {x : Int} (s : BS l p i j) (hs : Rises l) (hp : ∀ x y, x ≤ y → p y = true → p x = true) (hx : l[h]? = some x) (hi : i ≤ h) (hj : h < j) (e : p x = false) : BS l p i h :=
  ⟨hi, by have := s.top; omega, s.lo, fun k y hy hk => by
    cases c : p y with
    | false => rfl
    | true => rw [hp x y (hs h k x y hk hx hy) c] at e; exact e⟩
theorem BS.count {l : List Int} {p : Int → Bool} {i j : Nat} (s : BS l p i j) (hs : Rises l) (hp : ∀ x y, x ≤ y → p y = true → p x = true) (e : ¬ i < j) : l.countP p = i :=
  count_cut hs hp (by have := s.top; have := s.le; omega) s.lo (fun k x hx hk => s.hi k x hx (by omega))

set_option maxRecDepth 100000 in
set_option maxHeartbeats 2000000 in
theorem p_search (q : Option Addr) (c : Nat) (l : List Int) (t : Int) (W : World) (hr : IReads W q l) (hs : Rises l) (hz : l.length ≤ 4398046511104) :
    Calls Try.prog 25 #[.slice q l.length c, .int .i64 t] W fun e W' => (∃ b, e = .returned (.tuple #[.int .i64 ((l.countP fun x => decide (x < t) : Nat) : Int), .bool b])) ∧ W' = W := by
  have HR := keepH hr
  have HS := keepH hs
  clear hr hs
  have HP : Hid (∀ x y : Int, x ≤ y → decide (y < t) = true → decide (x < t) = true) := fun x y h e => by simp at e ⊢; omega
  obtain ⟨n, hn⟩ : ∃ n, n = l.length := ⟨_, rfl⟩
  rw [← hn] at hz ⊢
  have HN := keepH hn
  clear hn
  go_enter Try.func25, Try.ntmps25
  go_wp2_with fail
  go_loopw [7, 8] (fun s7 s8 wr => ∃ i j : Nat, s7 = .int .i64 (i : Int) ∧ s8 = .int .i64 (j : Int) ∧ wr = W ∧ Hid (BS l (fun x => decide (x < t)) i j)) (fun s7 s8 _ => (intOf s8).toNat - (intOf s7).toNat)
  case atStart => exact ⟨0, n, rfl, rfl, rfl, keepH ⟨by omega, by rw [HN.out]; exact Nat.le_refl _, fun k x _ h => by omega, fun k x hx h => by have := (List.getElem?_eq_some_iff.1 hx).1; have := HN.out; omega⟩⟩
  case round =>
    obtain ⟨i, j, rfl, rfl, rfl, HB⟩ := hrel
    by_cases e : i < j
    · obtain ⟨h, hh⟩ : ∃ h, h = (i + j) / 2 := ⟨_, rfl⟩
      have hjn : j ≤ n := by have := HB.out.top; have := HN.out; omega
      have hb : i ≤ h ∧ h < j := by omega
      have t1 : (i : Int) < (j : Int) := by omega
      have w1 : IntKind.i64.wrap ((i : Int) + (j : Int)) = ((i + j : Nat) : Int) := by rw [IntKind.wrap_i64]; omega
      have w2 : IntKind.u64.wrap ((i + j : Nat) : Int) = ((i + j : Nat) : Int) := by rw [IntKind.wrap_u64]; omega
      have w3 : ((i + j : Nat) : Int) / 2 = (h : Int) := by omega
      have w4 : IntKind.i64.wrap (h : Int) = (h : Int) := by rw [IntKind.wrap_i64]; omega
      have w5 : IntKind.i64.wrap ((h : Int) + 1) = ((h + 1 : Nat) : Int) := by rw [IntKind.wrap_i64]; omega
      obtain ⟨x, hx⟩ : ∃ x, l[h]? = some x := ⟨_, List.getElem?_eq_getElem (by have := HN.out; omega)⟩
      obtain ⟨bk, off, rfl, _, cx⟩ := HR.out.get h x hx
      have bb : h < n := by omega
      generalize hin : (i + j : Nat) = s at *
      generalize hh1 : (h + 1 : Nat) = h1 at *
      have HX := keepH hx
      have HH : Hid (h1 = h + 1 ∧ i ≤ h ∧ h < j) := ⟨hh1.symm, hb⟩
      clear hin hh1 hb hh hx e
      by_cases d : x < t
      · have dd : decide (x < t) = true := decide_eq_true d
        go_wp2_with fail
        refine (less_i x t _).mono ?_
        rintro e w ⟨rfl, rfl⟩
        rw [dd]
        clear cx
        go_wp2_with fail
        go_roundw
        case rel => exact ⟨h1, j, rfl, rfl, by first | trivial | rfl, keepH (by rw [HH.out.1]; exact HB.out.up HS.out HP.out HX.out HH.out.2.2 dd)⟩
        case measure => have := HH.out; simp [intOf]; omega
      · have dd : decide (x < t) = false := decide_eq_false d
        go_wp2_with fail
        refine (less_i x t _).mono ?_
        rintro e w ⟨rfl, rfl⟩
        rw [dd]
        clear cx
        go_wp2_with fail
        go_roundw
        case rel => exact ⟨i, h, rfl, rfl, by first | trivial | rfl, keepH (HB.out.down HS.out HP.out HX.out HH.out.2.1 HH.out.2.2 dd)⟩
        case measure => have := HH.out; simp [intOf]; omega
    · have t1 : ¬ (i : Int) < (j : Int) := by omega
      have HE := keepH (HB.out.count HS.out HP.out e)
      by_cases g : i < n
      · have t2 : (i : Int) < (n : Int) := by omega
        obtain ⟨x, hx⟩ : ∃ x, l[i]? = some x := ⟨_, List.getElem?_eq_getElem (by have := HN.out; omega)⟩
        obtain ⟨bk, off, rfl, _, cx⟩ := HR.out.get i x hx
        by_cases d : x = t
        · go_wp2_with fail
          go_ret2
          first | exact ⟨⟨true, by rw [HE.out]; simp⟩, rfl⟩ | exact ⟨⟨true, by rw [HE.out]; simp; assumption⟩, rfl⟩ | (rw [HE.out]; simp; done) | (rw [HE.out]; simp; assumption)
        · go_wp2_with fail
          refine (nan_i x _).mono ?_
          rintro e w ⟨rfl, rfl⟩
          go_wp2_with fail
          go_ret2
          exact ⟨⟨false, by rw [HE.out]; simp [d]⟩, rfl⟩
      · have t2 : ¬ (i : Int) < (n : Int) := by omega
        go_wp2_with fail
        go_ret2
        first | exact ⟨⟨false, by rw [HE.out]; simp⟩, rfl⟩ | exact ⟨⟨false, by rw [HE.out]; simp; assumption⟩, rfl⟩ | (rw [HE.out]; simp; done) | (rw [HE.out]; simp; assumption)
set_option maxRecDepth 100000 in
set_option maxHeartbeats 2000000 in
theorem p_searchF (q : Option Addr) (c : Nat) (l : List Int) (t : Int) (W : World) (hr : IReads W q l) (hs : Rises l) (hz : l.length ≤ 4398046511104) :
    Calls Try.prog 43 #[.slice q l.length c, .int .i64 t, .func (.func 44) #[] #[]] W fun e W' => (∃ b, e = .returned (.tuple #[.int .i64 ((l.countP fun x => decide (x ≤ t) : Nat) : Int), .bool b])) ∧ W' = W := by
  have HR := keepH hr
  have HS := keepH hs
  clear hr hs
  have HP : Hid (∀ x y : Int, x ≤ y → decide (y ≤ t) = true → decide (x ≤ t) = true) := fun x y h e => by simp at e ⊢; omega
  obtain ⟨n, hn⟩ : ∃ n, n = l.length := ⟨_, rfl⟩
  rw [← hn] at hz ⊢
  have HN := keepH hn
  clear hn
  go_enter Try.func43, Try.ntmps43
  go_wp2_with fail
  go_loopw [9, 10] (fun s7 s8 wr => ∃ i j : Nat, s7 = .int .i64 (i : Int) ∧ s8 = .int .i64 (j : Int) ∧ wr = W ∧ Hid (BS l (fun x => decide (x ≤ t)) i j)) (fun s7 s8 _ => (intOf s8).toNat - (intOf s7).toNat)
  case atStart => exact ⟨0, n, rfl, rfl, rfl, keepH ⟨by omega, by rw [HN.out]; exact Nat.le_refl _, fun k x _ h => by omega, fun k x hx h => by have := (List.getElem?_eq_some_iff.1 hx).1; have := HN.out; omega⟩⟩
  case round =>
    obtain ⟨i, j, rfl, rfl, rfl, HB⟩ := hrel
    by_cases e : i < j
    · obtain ⟨h, hh⟩ : ∃ h, h = (i + j) / 2 := ⟨_, rfl⟩
      have hjn : j ≤ n := by have := HB.out.top; have := HN.out; omega
      have hb : i ≤ h ∧ h < j := by omega
      have t1 : (i : Int) < (j : Int) := by omega
      have w1 : IntKind.i64.wrap ((i : Int) + (j : Int)) = ((i + j : Nat) : Int) := by rw [IntKind.wrap_i64]; omega
      have w2 : IntKind.u64.wrap ((i + j : Nat) : Int) = ((i + j : Nat) : Int) := by rw [IntKind.wrap_u64]; omega
      have w3 : ((i + j : Nat) : Int) / 2 = (h : Int) := by omega
      have w4 : IntKind.i64.wrap (h : Int) = (h : Int) := by rw [IntKind.wrap_i64]; omega
      have w5 : IntKind.i64.wrap ((h : Int) + 1) = ((h + 1 : Nat) : Int) := by rw [IntKind.wrap_i64]; omega
      obtain ⟨x, hx⟩ : ∃ x, l[h]? = some x := ⟨_, List.getElem?_eq_getElem (by have := HN.out; omega)⟩
      obtain ⟨bk, off, rfl, _, cx⟩ := HR.out.get h x hx
      have bb : h < n := by omega
      generalize hin : (i + j : Nat) = s at *
      generalize hh1 : (h + 1 : Nat) = h1 at *
      have HX := keepH hx
      have HH : Hid (h1 = h + 1 ∧ i ≤ h ∧ h < j) := ⟨hh1.symm, hb⟩
      clear hin hh1 hb hh hx e
      by_cases d : x ≤ t
      · have dd : decide (x ≤ t) = true := decide_eq_true d
        have dd2 : (if x ≤ t then (-1 : Int) else 1) = -1 := if_pos d
        go_wp2_with fail
        refine (up_1 x t _).mono ?_
        rintro e w ⟨rfl, rfl⟩
        rw [dd2]
        clear cx
        go_wp2_with fail
        go_roundw
        case rel => exact ⟨h1, j, rfl, rfl, by first | trivial | rfl, keepH (by rw [HH.out.1]; exact HB.out.up HS.out HP.out HX.out HH.out.2.2 dd)⟩
        case measure => have := HH.out; simp [intOf]; omega
      · have dd : decide (x ≤ t) = false := decide_eq_false d
        have dd2 : (if x ≤ t then (-1 : Int) else 1) = 1 := if_neg d
        go_wp2_with fail
        refine (up_1 x t _).mono ?_
        rintro e w ⟨rfl, rfl⟩
        rw [dd2]
        clear cx
        go_wp2_with fail
        go_roundw
        case rel => exact ⟨i, h, rfl, rfl, by first | trivial | rfl, keepH (HB.out.down HS.out HP.out HX.out HH.out.2.1 HH.out.2.2 dd)⟩
        case measure => have := HH.out; simp [intOf]; omega
    · have t1 : ¬ (i : Int) < (j : Int) := by omega
      have HE := keepH (HB.out.count HS.out HP.out e)
      by_cases g : i < n
      · have t2 : (i : Int) < (n : Int) := by omega
        obtain ⟨x, hx⟩ : ∃ x, l[i]? = some x := ⟨_, List.getElem?_eq_getElem (by have := HN.out; omega)⟩
        obtain ⟨bk, off, rfl, _, cx⟩ := HR.out.get i x hx
        have d : ¬ x ≤ t := fun d => by have := HB.out.hi i x hx (by omega); simp [d] at this
        have dd2 : (if x ≤ t then (-1 : Int) else 1) = 1 := if_neg d
        go_wp2_with fail
        refine (up_1 x t _).mono ?_
        rintro e w ⟨rfl, rfl⟩
        rw [dd2]
        go_wp2_with fail
        go_ret2
        first | exact ⟨⟨false, by rw [HE.out]; simp⟩, rfl⟩ | (rw [HE.out]; simp; done)
      · have t2 : ¬ (i : Int) < (n : Int) := by omega
        go_wp2_with fail
        go_ret2
        first | exact ⟨⟨false, by rw [HE.out]; simp⟩, rfl⟩ | exact ⟨⟨false, by rw [HE.out]; simp; assumption⟩, rfl⟩ | (rw [HE.out]; simp; done) | (rw [HE.out]; simp; assumption)
end Go.Proofs.Ytmjjaadliebgoaa
