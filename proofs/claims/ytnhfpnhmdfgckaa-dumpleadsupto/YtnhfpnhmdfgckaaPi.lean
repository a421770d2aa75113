/- A picture: the same map by itself. -/
import Derived.Test.YtnhfpnhmdfgckaaNb
namespace Go.Proofs.Ytnhfpnhmdfgckaa
open Go.RowKit Go.Maps
set_option linter.unusedVariables false

def leftF (f : Nat → Option Nat) (left : Lit → Bool) : Nat → Option Nat := fun k => if left (.int .u64 (k : Int)) = true then none else f k
theorem leftF_start {H : Type} {el : Nat → DataW H} {ok : Nat → Prop} {D : DataW H} {f : Nat → Option Nat} (r : RdM el ok D f) : leftF f (Maps.has D) = fun _ => none := by
  funext k
  unfold leftF
  rw [r.has k]
  cases f k <;> simp
theorem leftF_step {f : Nat → Option Nat} {left : Lit → Bool} {x c : Nat} (hf : f x = some c) : leftF f (fun z => left z && !z.sameKey (.int .u64 (x : Int))) = updO (leftF f left) x (some c) := by
  funext k
  by_cases e : k = x
  · subst e
    rw [updO_same]
    unfold leftF
    rw [if_neg (by rw [(left_step k k).2 (.inr rfl)]; simp), hf]
  · rw [updO_other _ _ e]
    unfold leftF
    simp [sameKey_ne (lit_ne e)]
theorem leftF_end {f : Nat → Option Nat} {left : Lit → Bool} (h : ∀ k, left k = false) : leftF f left = f := by
  funext k
  unfold leftF
  simp [h]
set_option maxRecDepth 100000 in
set_option maxHeartbeats 2000000 in
theorem c_pict {W : World} {b n : Nat} {f : Nat → Option Nat} (h : MapAt W b n f) (hn : n ≤ 8796093022000) :
    Calls Try.prog 70 #[.map (some b)] W fun e W' => e = .returned (.map (some W.heap.size)) ∧ MapAt W' W.heap.size n f ∧ Chg (fun _ => False) W W' := by
  obtain ⟨D, hown, r⟩ := h
  have hsz := hown.size_le
  have hbl := hown.lt
  have HR := keepH r
  clear r
  have hmm := mk_hint
  have C0 : Chg (fun _ => False) W (W.alloc (.map #[] 0)) := (Chg.refl _ _).alloc _
  have hown1 := own_chg hown C0 (fun x => x)
  have M0 : MapAt (W.alloc (.map #[] 0)) W.heap.size 0 (fun _ => none) := MapR.made _ _ _ W
  obtain ⟨w0, hw0⟩ : ∃ w0, w0 = W.alloc (.map #[] 0) := ⟨_, rfl⟩
  have z0 : w0.heap.size = W.heap.size + 1 := by rw [hw0]; exact World.size_alloc _ _
  rw [← hw0] at C0 hown1 M0
  have HC0 := keepH C0
  have HM0 := keepH M0
  have HZ0 := keepH z0
  clear C0 M0 z0
  go_enter Try.func70, Try.ntmps70
  go_wp2_with (first | (at_len; refine wpList_len_own _ rfl _ 105 rfl 57 57 Try.underlying105 _ b n D rfl hown ?_) | (at_range; rw [← hw0]; refine wpList_range_own _ rfl _ 105 rfl 57 57 K64 Try.underlying105 _ b n _ rfl hown1 ?_; intro w1 hrg1 hg1 hs1))
  have HC1 : Hid (Chg (fun _ => False) W w1) := HC0.out.trans (grown_chg (F := fun _ => False) hg1 (fun k e => by simp at e)) (fun _ _ x => x) (fun _ _ x => x)
  have HM1 : Hid (MapAt w1 W.heap.size 0 (fun _ => none)) := MapR.chg (F := fun _ => False) HM0.out (grown_chg hg1 (fun k e => by simp at e)) (fun x => x)
  have HRG := keepH hrg1
  clear hg1 hrg1 hown hown1 hs1 hw0 HC0 HM0 hmm
  go_frame
  go_loopw [] (fun wr => ∃ (left : Lit → Bool) (cnt j : Nat), Hid (wr.ranges Try.prog 57 (plainElem Try.prog 57) b w0.heap.size n D left cnt ∧ MapAt wr W.heap.size j (leftF f left) ∧ j + cnt ≤ Maps.size D ∧ Chg (fun _ => False) W wr)) (fun wr => wr.rangeLeft b w0.heap.size)
  case atStart => exact ⟨_, _, 0, ⟨HRG.out, by rw [leftF_start HR.out]; exact HM1.out, by simp, HC1.out⟩⟩
  case round =>
    obtain ⟨left, cnt, j, HK⟩ := hrel
    have hrg := HK.out.1
    have hlc := HK.out.2.2.1
    go_wp2_with (first | (at_next; refine wpList_next_ranges_ii _ rfl _ rfl 57 57 .u64 .u64 K64 Try.underlying57 Try.underlying57 b w0.heap.size n _ _ _ rfl hrg ?_ ?_))
    · intro h0 hl0
      have HM : Hid (MapAt wr W.heap.size n f) := by
        have q := HK.out.2.1
        rw [leftF_end hl0] at q
        exact MapR.mono q (by omega)
      clear hl0 hrg
      go_wp2_with fail
      go_ret
      exact ⟨rfl, HM.out, HK.out.2.2.2⟩
    · intro x c w2 cnt2 hwx hwc hlx hat hrg2 hlt hg2 hs2 hen
      obtain ⟨x, rfl, hx⟩ := nat_u64 hwx
      obtain ⟨c, rfl, hc⟩ := nat_u64 hwc
      have hf := HR.out.came hat
      have G2 : Chg (fun k => k = w0.heap.size) wr w2 := grown_chg hg2 (fun k e => (Option.some.inj e).symm)
      have M2 : MapAt w2 W.heap.size j (leftF f left) := MapR.chg HK.out.2.1 G2 (by have := HZ0.out; omega)
      obtain ⟨w3, hu, M3, C3⟩ := MapAt.put M2 (by unfold maxLen; omega) hx hc
      have HC3 : Hid (Chg (fun _ => False) W w3) := (HK.out.2.2.2.trans G2 (fun _ _ x => x) (fun i hi e => by have := HZ0.out; omega)).trans C3 (fun _ _ x => x) (fun i hi e => by omega)
      have cg : w2.grownBy w3 (some W.heap.size) := ⟨C3.os, C3.tape, C3.output, C3.size, fun k hk hn => C3.block k hk (fun e => hn (by rw [e]))⟩
      have hrg3 := hrg2.kept cg (fun e => by injection e with e; omega) (fun e => by injection e with e; have := HZ0.out; omega)
      have HG3 := keepH hrg3
      have HM3 : Hid (MapAt w3 W.heap.size (j + 1) (leftF f (fun z => left z && !z.sameKey (.int .u64 (x : Int))))) := by rw [leftF_step hf]; exact M3
      have hmeas := hrg3.left_eq
      have hmeas0 := hrg.left_eq
      clear hat hf hlx hwx hwc hg2 hs2 hrg2 hrg hrg3 G2 M2 M3 C3 cg
      go_wp2_with fail
      go_roundw
      case rel => exact ⟨_, cnt2, j + 1, HG3.out, HM3.out, by omega, HC3.out⟩
      case measure => rw [hmeas, hmeas0]; exact hlt
end Go.Proofs.Ytnhfpnhmdfgckaa
