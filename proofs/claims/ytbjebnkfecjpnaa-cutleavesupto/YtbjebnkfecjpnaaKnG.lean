/- Which stamps are needed: the program's word and the document's. -/
import Derived.Deep.Cut
import Derived.Deep.CutBlock
import Derived.Deep.DeepCutAuto
import Derived.Test.YtbjebnkfecjpnaaVz
import Derived.Test.YtbjebnkfecjpnaaSNew
namespace Go.Proofs.Ytbjebnkfecjpnaa
open Go.RowKit Go.Shelf
set_option linter.unusedVariables false

def U64At (W : World) (p : Option Addr) (l : List Nat) : Prop := l = [] ∨ ∃ bk off, p = some ⟨bk, off, none⟩ ∧ bk < W.heap.size ∧ ∀ (i x : Nat), l[i]? = some x → x < 18446744073709551616 ∧ W.cell? ⟨bk, off + i, none⟩ = some (.int .u64 (x : Int))
theorem U64At.chg {W W' : World} {p : Option Addr} {l : List Nat} {G : Nat → Prop} (h : U64At W p l) (c : Chg G W W') (hn : ∀ bk off, p = some ⟨bk, off, none⟩ → l ≠ [] → ¬ G bk) : U64At W' p l := by
  rcases h with h | ⟨bk, off, rfl, hb, hc⟩
  · exact .inl h
  · by_cases e : l = []
    · exact .inl e
    · refine .inr ⟨bk, off, rfl, Nat.lt_of_lt_of_le hb c.size, fun i x hi => ⟨(hc i x hi).1, ?_⟩⟩
      have hb2 := c.block bk hb (hn bk off rfl e)
      have := (hc i x hi).2
      unfold World.cell? at this ⊢
      simp only [] at this ⊢
      rw [hb2]
      exact this
theorem U64At.reads {W : World} {p : Option Addr} {l : List Nat} (h : U64At W p l) : Reads W p l := by
  rcases h with h | ⟨bk, off, rfl, hb, hc⟩
  · exact .inl h
  · refine .inr ⟨_, rfl, fun j u hj => ?_⟩
    have e : (⟨bk, off, none⟩ : Addr).add j = ⟨bk, off + j, none⟩ := by unfold Addr.add; split <;> simp_all
    rw [e]
    obtain ⟨x, hx, rfl⟩ : ∃ x, l[j]? = some x ∧ u64V x = u := by
      rw [List.getElem?_map] at hj
      cases h : l[j]? with
      | none => rw [h] at hj; simp at hj
      | some x => rw [h] at hj; exact ⟨x, rfl, by simpa using hj⟩
    exact (hc j x hx).2

def hitN (s nw t : Nat) : Bool := decide (s ≤ t) && decide (t < nw)
def ndN (F : Nat) (l : List Nat) (s nw : Nat) : Bool := decide (max s F < nw) || l.any (hitN s nw)
theorem hitN_false {s nw t : Nat} (h : nw ≤ s) : hitN s nw t = false := by
  unfold hitN
  by_cases e : s ≤ t
  · have : ¬ t < nw := by omega
    simp [this]
  · simp [e]
theorem any_take {l : List Nat} {f : Nat → Bool} {k : Nat} (x : Nat) (hx : l[k]? = some x) (h : (l.take k).any f = false) : (l.take (k + 1)).any f = f x := by
  rw [List.take_add_one, hx]
  simp only [Option.toList_some, List.any_append, h, Bool.false_or]
  simp
theorem any_hit {l : List Nat} {f : Nat → Bool} {k : Nat} (x : Nat) (hx : l[k]? = some x) (h : f x = true) : l.any f = true :=
  List.any_eq_true.2 ⟨x, List.mem_of_getElem? hx, h⟩

set_option maxRecDepth 100000 in
set_option maxHeartbeats 2000000 in
theorem k_needed (F s nw : Nat) (p : Option Addr) (c : Nat) (l : List Nat) (W : World) (h : U64At W p l) (hl : l.length < 4611686018427387904) :
    Calls Try.prog 8 #[.agg #[.int .u64 (F : Int), .slice p l.length c], .int .u64 (s : Int), .int .u64 (nw : Int)] W fun e W' => e = .returned (.bool (ndN F l s nw)) ∧ Chg (fun _ => False) W W' := by
  by_cases hsF : s < F
  · have mF : max s F = F := by omega
    by_cases h1 : F < nw
    · have e0 : ndN F l s nw = true := by simp [ndN, mF, h1]
      have i1 : (F : Int) < (nw : Int) := by omega
      rw [e0]
      clear h e0 mF
      go_enter Try.func8, Try.ntmps8
      go_wp2_with fail
      go_ret
      exact ⟨by simp, (Chg.refl _ _).alloc _⟩
    · have e0 : ndN F l s nw = l.any (hitN s nw) := by simp [ndN, mF, h1]
      have i1 : ¬ (F : Int) < (nw : Int) := by omega
      rw [e0]
      have H := keepH h
      clear h e0 mF
      obtain ⟨W1, hW1⟩ : ∃ W1, W1 = W.alloc (.cells #[.int .u64 (F : Int), .slice p l.length c] 25) := ⟨_, rfl⟩
      have HW1 := keepH hW1
      have HC : Hid (Chg (fun _ => False) W W1) := by rw [hW1]; exact (Chg.refl _ _).alloc _
      have HU : Hid (U64At W1 p l) := H.out.chg HC.out (fun _ _ _ _ x => x)
      have c1 : W1.cell? ⟨W.heap.size, 1, none⟩ = some (.slice p l.length c) := by rw [hW1]; exact cell_of (heap_alloc_new _ _) 1
      have c0 : W1.cell? ⟨W.heap.size, 0, none⟩ = some (.int .u64 (F : Int)) := by rw [hW1]; exact cell_of (heap_alloc_new _ _) 0
      clear hW1
      go_enter Try.func8, Try.ntmps8
      go_upto_region 1 with fail
      rw [← HW1.out]
      clear HW1
      go_wp2_with fail
      go_loopw [18] (fun sv wr => ∃ k : Nat, k ≤ l.length ∧ sv = .int .i64 (k : Int) ∧ Hid ((l.take k).any (hitN s nw) = false ∧ wr = W1)) (fun sv _ => l.length - (intOf sv).toNat)
      case atStart => exact ⟨0, by omega, rfl, keepH ⟨by simp, rfl⟩⟩
      case round =>
        obtain ⟨k, hk, rfl, HK⟩ := hrel
        obtain ⟨hk1, hk2⟩ := HK.out
        subst hk2
        by_cases hlt : k < l.length
        · have t1 : (k : Int) < (l.length : Int) := by omega
          obtain ⟨x, hx⟩ : ∃ x, l[k]? = some x := ⟨l[k], List.getElem?_eq_getElem hlt⟩
          obtain ⟨bk, off, rfl, hb, hc⟩ := HU.out.resolve_left (fun e => by rw [e] at hlt; simp at hlt)
          have cx := (hc k x hx).2
          have HX := keepH hx
          have HK1 := keepH hk1
          clear hc hx hk1
          by_cases a1 : s ≤ x
          · have a2 : (s : Int) ≤ (x : Int) := by omega
            have ad : decide (s ≤ x) = true := decide_eq_true a1
            have ae : decide ((s : Int) ≤ (x : Int)) = true := decide_eq_true a2
            by_cases b1 : x < nw
            · have b2 : (x : Int) < (nw : Int) := by omega
              have bd : decide (x < nw) = true := decide_eq_true b1
              have be : decide ((x : Int) < (nw : Int)) = true := decide_eq_true b2
              have HR : Hid (l.any (hitN s nw) = true) := any_hit x HX.out (by simp [hitN, a1, b1])
              go_wp2_with fail
              go_ret
              exact ⟨by simp [HR.out], HC.out⟩
            · have b2 : ¬ (x : Int) < (nw : Int) := by omega
              have bd : decide (x < nw) = false := decide_eq_false b1
              have be : decide ((x : Int) < (nw : Int)) = false := decide_eq_false b2
              have HR : Hid ((l.take (k + 1)).any (hitN s nw) = false) := by show _ = _; rw [any_take x HX.out HK1.out]; simp [hitN, b1]
              go_wp2_with fail
              go_roundw
              case rel => exact ⟨k + 1, by omega, by go_num, keepH ⟨HR.out, by first | rfl | trivial⟩⟩
              case measure => simp [intOf]; omega
          · have a2 : ¬ (s : Int) ≤ (x : Int) := by omega
            have ad : decide (s ≤ x) = false := decide_eq_false a1
            have ae : decide ((s : Int) ≤ (x : Int)) = false := decide_eq_false a2
            have HR : Hid ((l.take (k + 1)).any (hitN s nw) = false) := by show _ = _; rw [any_take x HX.out HK1.out]; simp [hitN, a1]
            go_wp2_with fail
            go_roundw
            case rel => exact ⟨k + 1, by omega, by go_num, keepH ⟨HR.out, by first | rfl | trivial⟩⟩
            case measure => simp [intOf]; omega
        · obtain rfl : k = l.length := by omega
          rw [List.take_length] at hk1
          go_wp2_with fail
          go_ret
          exact ⟨by simp, HC.out⟩
  · have mF : max s F = s := by omega
    by_cases h1 : s < nw
    · have e0 : ndN F l s nw = true := by simp [ndN, mF, h1]
      have i1 : (s : Int) < (nw : Int) := by omega
      rw [e0]
      clear h e0 mF
      go_enter Try.func8, Try.ntmps8
      go_wp2_with fail
      go_ret
      exact ⟨by simp, (Chg.refl _ _).alloc _⟩
    · have e0 : ndN F l s nw = l.any (hitN s nw) := by simp [ndN, mF, h1]
      have i1 : ¬ (s : Int) < (nw : Int) := by omega
      rw [e0]
      have H := keepH h
      clear h e0 mF
      obtain ⟨W1, hW1⟩ : ∃ W1, W1 = W.alloc (.cells #[.int .u64 (F : Int), .slice p l.length c] 25) := ⟨_, rfl⟩
      have HW1 := keepH hW1
      have HC : Hid (Chg (fun _ => False) W W1) := by rw [hW1]; exact (Chg.refl _ _).alloc _
      have HU : Hid (U64At W1 p l) := H.out.chg HC.out (fun _ _ _ _ x => x)
      have c1 : W1.cell? ⟨W.heap.size, 1, none⟩ = some (.slice p l.length c) := by rw [hW1]; exact cell_of (heap_alloc_new _ _) 1
      have c0 : W1.cell? ⟨W.heap.size, 0, none⟩ = some (.int .u64 (F : Int)) := by rw [hW1]; exact cell_of (heap_alloc_new _ _) 0
      clear hW1
      go_enter Try.func8, Try.ntmps8
      go_upto_region 1 with fail
      rw [← HW1.out]
      clear HW1
      go_wp2_with fail
      go_loopw [18] (fun sv wr => ∃ k : Nat, k ≤ l.length ∧ sv = .int .i64 (k : Int) ∧ Hid ((l.take k).any (hitN s nw) = false ∧ wr = W1)) (fun sv _ => l.length - (intOf sv).toNat)
      case atStart => exact ⟨0, by omega, rfl, keepH ⟨by simp, rfl⟩⟩
      case round =>
        obtain ⟨k, hk, rfl, HK⟩ := hrel
        obtain ⟨hk1, hk2⟩ := HK.out
        subst hk2
        by_cases hlt : k < l.length
        · have t1 : (k : Int) < (l.length : Int) := by omega
          obtain ⟨x, hx⟩ : ∃ x, l[k]? = some x := ⟨l[k], List.getElem?_eq_getElem hlt⟩
          obtain ⟨bk, off, rfl, hb, hc⟩ := HU.out.resolve_left (fun e => by rw [e] at hlt; simp at hlt)
          have cx := (hc k x hx).2
          have HX := keepH hx
          have HK1 := keepH hk1
          clear hc hx hk1
          by_cases a1 : s ≤ x
          · have a2 : (s : Int) ≤ (x : Int) := by omega
            have ad : decide (s ≤ x) = true := decide_eq_true a1
            have ae : decide ((s : Int) ≤ (x : Int)) = true := decide_eq_true a2
            by_cases b1 : x < nw
            · have b2 : (x : Int) < (nw : Int) := by omega
              have bd : decide (x < nw) = true := decide_eq_true b1
              have be : decide ((x : Int) < (nw : Int)) = true := decide_eq_true b2
              have HR : Hid (l.any (hitN s nw) = true) := any_hit x HX.out (by simp [hitN, a1, b1])
              go_wp2_with fail
              go_ret
              exact ⟨by simp [HR.out], HC.out⟩
            · have b2 : ¬ (x : Int) < (nw : Int) := by omega
              have bd : decide (x < nw) = false := decide_eq_false b1
              have be : decide ((x : Int) < (nw : Int)) = false := decide_eq_false b2
              have HR : Hid ((l.take (k + 1)).any (hitN s nw) = false) := by show _ = _; rw [any_take x HX.out HK1.out]; simp [hitN, b1]
              go_wp2_with fail
              go_roundw
              case rel => exact ⟨k + 1, by omega, by go_num, keepH ⟨HR.out, by first | rfl | trivial⟩⟩
              case measure => simp [intOf]; omega
          · have a2 : ¬ (s : Int) ≤ (x : Int) := by omega
            have ad : decide (s ≤ x) = false := decide_eq_false a1
            have ae : decide ((s : Int) ≤ (x : Int)) = false := decide_eq_false a2
            have HR : Hid ((l.take (k + 1)).any (hitN s nw) = false) := by show _ = _; rw [any_take x HX.out HK1.out]; simp [hitN, a1]
            go_wp2_with fail
            go_roundw
            case rel => exact ⟨k + 1, by omega, by go_num, keepH ⟨HR.out, by first | rfl | trivial⟩⟩
            case measure => simp [intOf]; omega
        · obtain rfl : k = l.length := by omega
          rw [List.take_length] at hk1
          go_wp2_with fail
          go_ret
          exact ⟨by simp, HC.out⟩

theorem rnd_eq (F s nw : Nat) (l : List Nat) : ndN F l s nw = (decide (s < nw) && (decide (F < nw) || l.any (hitN s nw))) := by
  unfold ndN
  by_cases h : s < nw
  · by_cases h2 : F < nw
    · have : max s F < nw := by omega
      simp [h, h2, this]
    · have : ¬ max s F < nw := by omega
      simp [h, h2, this]
  · have h3 : ¬ max s F < nw := by omega
    have h4 : l.any (hitN s nw) = false := by
      rw [List.any_eq_false]
      intro x _
      rw [hitN_false (by omega)]
      simp
    simp [h, h3, h4]

set_option maxRecDepth 100000 in
set_option maxHeartbeats 2000000 in
theorem r_needed (F s nw : Nat) (p : Option Addr) (c : Nat) (l : List Nat) (W : World) (h : U64At W p l) (hl : l.length < 4611686018427387904) :
    Calls Try.prog 9 #[.agg #[.int .u64 (F : Int), .slice p l.length c], .int .u64 (s : Int), .int .u64 (nw : Int)] W fun e W' => e = .returned (.bool (ndN F l s nw)) ∧ Chg (fun _ => False) W W' := by
  rw [rnd_eq]
  by_cases h0 : nw ≤ s
  · have i0 : (nw : Int) ≤ (s : Int) := by omega
    have e0 : decide (s < nw) = false := decide_eq_false (by omega)
    rw [e0, Bool.false_and]
    clear h e0
    go_enter Try.func9, Try.ntmps9
    go_wp2_with fail
    go_ret
    exact ⟨by simp, (Chg.refl _ _).alloc _⟩
  · have i0 : ¬ (nw : Int) ≤ (s : Int) := by omega
    have e0 : decide (s < nw) = true := decide_eq_true (by omega)
    rw [e0, Bool.true_and]
    clear e0
    by_cases h1 : F < nw
    · have i1 : (F : Int) < (nw : Int) := by omega
      have e0 : decide (F < nw) = true := decide_eq_true h1
      rw [e0, Bool.true_or]
      clear h e0
      go_enter Try.func9, Try.ntmps9
      go_wp2_with fail
      go_ret
      exact ⟨by simp, (Chg.refl _ _).alloc _⟩
    · have i1 : ¬ (F : Int) < (nw : Int) := by omega
      have e0 : decide (F < nw) = false := decide_eq_false h1
      rw [e0, Bool.false_or]
      have H := keepH h
      clear h e0
      obtain ⟨W1, hW1⟩ : ∃ W1, W1 = W.alloc (.cells #[.int .u64 (F : Int), .slice p l.length c] 25) := ⟨_, rfl⟩
      have HW1 := keepH hW1
      have HC : Hid (Chg (fun _ => False) W W1) := by rw [hW1]; exact (Chg.refl _ _).alloc _
      have HU : Hid (U64At W1 p l) := H.out.chg HC.out (fun _ _ _ _ x => x)
      have c1 : W1.cell? ⟨W.heap.size, 1, none⟩ = some (.slice p l.length c) := by rw [hW1]; exact cell_of (heap_alloc_new _ _) 1
      have c0 : W1.cell? ⟨W.heap.size, 0, none⟩ = some (.int .u64 (F : Int)) := by rw [hW1]; exact cell_of (heap_alloc_new _ _) 0
      clear hW1
      go_enter Try.func9, Try.ntmps9
      go_upto_region 1 with fail
      rw [← HW1.out]
      clear HW1
      go_wp2_with fail
      go_loopw [7] (fun sv wr => ∃ k : Nat, k ≤ l.length ∧ sv = .int .i64 (k : Int) ∧ Hid ((l.take k).any (hitN s nw) = false ∧ wr = W1)) (fun sv _ => l.length - (intOf sv).toNat)
      case atStart => exact ⟨0, by omega, rfl, keepH ⟨by simp, rfl⟩⟩
      case round =>
        obtain ⟨k, hk, rfl, HK⟩ := hrel
        obtain ⟨hk1, hk2⟩ := HK.out
        subst hk2
        by_cases hlt : k < l.length
        · have t1 : (k : Int) < (l.length : Int) := by omega
          obtain ⟨x, hx⟩ : ∃ x, l[k]? = some x := ⟨l[k], List.getElem?_eq_getElem hlt⟩
          obtain ⟨bk, off, rfl, hb, hc⟩ := HU.out.resolve_left (fun e => by rw [e] at hlt; simp at hlt)
          have cx := (hc k x hx).2
          have HX := keepH hx
          have HK1 := keepH hk1
          clear hc hx hk1
          by_cases a1 : s ≤ x
          · have a2 : (s : Int) ≤ (x : Int) := by omega
            have ad : decide (s ≤ x) = true := decide_eq_true a1
            have ae : decide ((s : Int) ≤ (x : Int)) = true := decide_eq_true a2
            by_cases b1 : x < nw
            · have b2 : (x : Int) < (nw : Int) := by omega
              have bd : decide (x < nw) = true := decide_eq_true b1
              have be : decide ((x : Int) < (nw : Int)) = true := decide_eq_true b2
              have HR : Hid (l.any (hitN s nw) = true) := any_hit x HX.out (by simp [hitN, a1, b1])
              go_wp2_with fail
              go_ret
              exact ⟨by simp [HR.out], HC.out⟩
            · have b2 : ¬ (x : Int) < (nw : Int) := by omega
              have bd : decide (x < nw) = false := decide_eq_false b1
              have be : decide ((x : Int) < (nw : Int)) = false := decide_eq_false b2
              have HR : Hid ((l.take (k + 1)).any (hitN s nw) = false) := by show _ = _; rw [any_take x HX.out HK1.out]; simp [hitN, b1]
              go_wp2_with fail
              go_roundw
              case rel => exact ⟨k + 1, by omega, by go_num, keepH ⟨HR.out, by first | rfl | trivial⟩⟩
              case measure => simp [intOf]; omega
          · have a2 : ¬ (s : Int) ≤ (x : Int) := by omega
            have ad : decide (s ≤ x) = false := decide_eq_false a1
            have ae : decide ((s : Int) ≤ (x : Int)) = false := decide_eq_false a2
            have HR : Hid ((l.take (k + 1)).any (hitN s nw) = false) := by show _ = _; rw [any_take x HX.out HK1.out]; simp [hitN, a1]
            go_wp2_with fail
            go_roundw
            case rel => exact ⟨k + 1, by omega, by go_num, keepH ⟨HR.out, by first | rfl | trivial⟩⟩
            case measure => simp [intOf]; omega
        · obtain rfl : k = l.length := by omega
          rw [List.take_length] at hk1
          go_wp2_with fail
          go_ret
          exact ⟨by simp, HC.out⟩
end Go.Proofs.Ytbjebnkfecjpnaa
