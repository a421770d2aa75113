/- The document's First: whatever spans, and those that are left: what stands first. Are two rows of ints the same? -/
import Derived.Test.YtmdeodijcmeflaaHFirst
namespace Go.Proofs.Ytmdeodijcmeflaa
open Go.RowKit Go.Maps

set_option maxRecDepth 100000 in
theorem r_isLeft {bs : List Bool} {k : Nat} {B : Bool} (hB : leftB bs k = B) (q : Option Addr) (d : Nat) (W : World) (hb : BReads W q bs) : Calls Try.prog 38 #[.slice q bs.length d, .int .i64 (k : Int)] W fun e W' => e = .returned (.bool B) ∧ W' = W := by
  subst hB
  by_cases h : k < bs.length
  · have t1 : (k : Int) < (bs.length : Int) := by omega
    obtain ⟨b, hbk⟩ : ∃ b, bs[k]? = some b := ⟨bs[k], List.getElem?_eq_getElem h⟩
    obtain ⟨bb, ob, rfl, _, e0⟩ := hb.get k b hbk
    have e1 := leftB_of hbk
    rw [e1]
    clear hb hbk e1
    go_enter Try.func38, Try.ntmps38
    go_wp2_with fail
    go_ret
    exact ⟨by simp, rfl⟩
  · have t1 : ¬ (k : Int) < (bs.length : Int) := by omega
    have e1 : leftB bs k = false := by unfold leftB; rw [List.getElem?_eq_none (by omega)]; rfl
    rw [e1]
    clear hb e1
    go_enter Try.func38, Try.ntmps38
    go_wp2_with fail
    go_ret
    exact ⟨by simp, rfl⟩

def rivalB (l : List Sp) (bs : List Bool) (i k : Nat) : Bool := leftB bs k && (!(k == i) && aheadAt l k i)
def freeN (l : List Sp) (bs : List Bool) (i : Nat) : Nat → Bool
  | 0 => leftB bs i
  | k + 1 => if rivalB l bs i k = true then false else freeN l bs i k
theorem freeN_iff {l : List Sp} {bs : List Bool} {i : Nat} (k : Nat) : freeN l bs i k = true ↔ leftB bs i = true ∧ ∀ j, j < k → rivalB l bs i j = false := by
  induction k with
  | zero => exact ⟨fun h => ⟨h, fun j hj => by omega⟩, fun h => h.1⟩
  | succ k ih =>
    rw [freeN]
    by_cases c : rivalB l bs i k = true
    · rw [if_pos c]
      refine ⟨fun h => by simp at h, fun h => ?_⟩
      have := h.2 k (by omega)
      rw [c] at this
      simp at this
    · rw [if_neg c, ih]
      refine ⟨fun h => ⟨h.1, fun j hj => ?_⟩, fun h => ⟨h.1, fun j hj => h.2 j (by omega)⟩⟩
      by_cases e : j = k
      · subst e
        simpa using c
      · exact h.2 j (by omega)
theorem free_first {l : List Sp} {bs : List Bool} {i : Nat} : freeN l bs i l.length = true ↔ FirstP l bs i := by
  rw [freeN_iff]
  unfold FirstP rivalB
  refine ⟨fun h => ⟨h.1, fun k hk hne hl => ?_⟩, fun h => ⟨h.1, fun k hk => ?_⟩⟩
  · have := h.2 k hk
    simpa [hl, hne] using this
  · by_cases c : k = i
    · simp [c]
    · cases hl : leftB bs k with
      | false => simp
      | true => simp [h.2 k hk c hl]

set_option maxRecDepth 100000 in
set_option maxHeartbeats 16000000 in
theorem r_first (p q : Option Addr) (c d : Nat) (l : List Sp) (bs : List Bool) (W : World) (h : SReads W p l) (hb : BReads W q bs) (hl : l.length ≤ 4398046511104) :
    Calls Try.prog 26 #[.slice p l.length c, .slice q bs.length d] W fun e W' => ∃ v, e = .returned v ∧ W'.ownsRow 0 3 1 v (firstsN l bs l.length).length (iRow (firstsN l bs l.length)) ∧ (∀ b, v.ownBlock = some b → W.heap.size ≤ b) ∧ Chg (fun _ => False) W W' := by
  obtain ⟨i0, hi, hz0, hz1, hz2⟩ := info_parts infoInt
  have HP := keepH h
  have HB := keepH hb
  have HI := keepH hi
  clear h hb hi
  go_enter Try.func26, Try.ntmps26
  go_wp2_with fail
  go_loopw [5, 6] (fun v s wr => ∃ k : Nat, k ≤ l.length ∧ s = .int .i64 (k : Int) ∧ Hid (FI l bs W wr k v)) (fun _ s _ => l.length - (intOf s).toNat)
  case atStart => exact ⟨0, by omega, rfl, keepH ⟨World.ownsRow_nil _ _ _ _, Chg.refl _ _, fun b hb => by simp [Value.ownBlock] at hb⟩⟩
  case round =>
    obtain ⟨k, hk, rfl, HK⟩ := hrel
    by_cases hlt : k < l.length
    · have t1 : (k : Int) < (l.length : Int) := by omega
      obtain ⟨s, hs⟩ : ∃ s, l[k]? = some s := ⟨l[k], List.getElem?_eq_getElem hlt⟩
      have HX := keepH hs
      have HBX := keepH (HB.out.chg HK.out.chg (fun _ _ x => x))
      obtain ⟨lb, hlb⟩ : ∃ lb, leftB bs k = lb := ⟨_, rfl⟩
      have HLB := keepH hlb
      have hfl : (firstsN l bs k).length ≤ 4398046511104 := by have := firstsN_le l bs k; omega
      obtain ⟨fl, hfl2⟩ : ∃ fl, fl = (firstsN l bs k).length := ⟨_, rfl⟩
      rw [← hfl2] at hfl
      have HFL := keepH hfl2
      clear hs hlb hfl2
      go_wp2_with fail
      refine (r_isLeft HLB.out _ _ _ HBX.out).mono ?_
      rintro e w' ⟨rfl, rfl⟩
      go_wp2_with fail
      obtain ⟨we, hwe⟩ : ∃ we, we = w' := ⟨_, rfl⟩
      rw [← hwe] at HK HBX ⊢
      clear hwe
      obtain ⟨vv, hvv⟩ : ∃ vv, vv = u5 := ⟨_, rfl⟩
      rw [← hvv] at HK ⊢
      clear hvv
      go_loopw [7, 8] (fun s7 s8 wx => ∃ j : Nat, j ≤ l.length ∧ s7 = .bool (freeN l bs k j) ∧ s8 = .int .i64 (j : Int) ∧ Hid (Chg (fun _ => False) we wx)) (fun _ s8 _ => l.length - (intOf s8).toNat)
      case atStart => exact ⟨0, by omega, by rw [freeN, HLB.out], rfl, keepH (Chg.refl _ _)⟩
      case round =>
        obtain ⟨wx, hwx⟩ : ∃ wx, wx = wr := ⟨_, rfl⟩
        rw [← hwx] at hrel ⊢
        clear hwx
        obtain ⟨j, hj, rfl, rfl, HJ⟩ := hrel
        obtain ⟨fr, hfr⟩ : ∃ fr, fr = freeN l bs k j := ⟨_, rfl⟩
        rw [← hfr]
        have HFR := keepH hfr
        clear hfr
        by_cases hjl : j < l.length
        · have t2 : (j : Int) < (l.length : Int) := by omega
          obtain ⟨t, ht⟩ : ∃ t, l[j]? = some t := ⟨l[j], List.getElem?_eq_getElem hjl⟩
          have HCX := keepH (HK.out.chg.trans HJ.out (H := fun _ => False) (fun _ _ x => x) (fun _ _ x => x))
          have HPX := keepH (HP.out.chg HCX.out (fun _ _ x => x))
          have HBD := keepH ((HB.out.chg HCX.out (fun _ _ x => x)).chg (chg0_drew wx) (fun _ _ x => x))
          obtain ⟨bk, off, rfl, _, f0, f1, f2, f3⟩ := HPX.out.get j t ht
          obtain ⟨bk2, off2, hbo, _, c0, c1, c2, c3⟩ := HPX.out.get k s HX.out
          simp only [Option.some.injEq, Addr.mk.injEq, and_true] at hbo
          obtain ⟨rfl, rfl⟩ := hbo
          obtain ⟨lj, hlj⟩ : ∃ lj, leftB bs j = lj := ⟨_, rfl⟩
          have HLJ := keepH hlj
          obtain ⟨ab, hab⟩ : ∃ ab, aheadB t s = ab := ⟨_, rfl⟩
          have HAB := keepH hab
          obtain ⟨rb, hrb⟩ : ∃ rb, rb = rivalB l bs k j := ⟨_, rfl⟩
          have HRB := keepH hrb
          have HRV : Hid (rb = (lj && (!(j == k) && ab))) := by show _ = _; rw [hrb]; unfold rivalB; rw [hlj, aheadAt_of ht HX.out, hab]
          clear ht hlj hab hrb
          go_upto_region 9 with fail
          go_cut [42] from 18 to 42 (fun s42 wz => s42 = .bool rb ∧ Hid (Chg (fun _ => False) wx wz))
          case first =>
            cases lj with
            | false =>
              refine wp_region_any (by kernel_rfl) ?_
              change wpAny _ _ _ _ _ _ _ (World.drew _)
              refine wpAny_take (i := 0) (v := ?_) rfl (by kernel_rfl) (by kernel_rfl) (by kernel_rfl) (fun _ _ _ h => h) (Or.inl ⟨by kernel_rfl, ?_⟩) ?_
              rotate_left
              · intro w
                go_simp
                try with_reducible rfl
              refine wpAny_take (i := 1) (v := ?_) rfl (by kernel_rfl) (by kernel_rfl) (by kernel_rfl) (fun _ _ _ h => h) (Or.inl ⟨by kernel_rfl, ?_⟩) ?_
              rotate_left
              · intro w
                go_simp
                try with_reducible rfl
              refine wpAny_ready (rs := [2]) (by kernel_rfl) (by simp) ?_
              refine AllReady.cons rfl (fun K hK => ?_) AllReady.nil
              go_simp
              go_wp2_with (go_at_call 38; refine (r_isLeft HLJ.out _ _ _ HBD.out).mono ?_; rintro e w1 ⟨rfl, rfl⟩)
              refine wpAny_take (i := 3) (v := ?_) rfl (by kernel_rfl) (by kernel_rfl) (by kernel_rfl) (fun _ _ _ h => h) (Or.inl ⟨by kernel_rfl, ?_⟩) ?_
              rotate_left
              · intro w
                go_simp
                try with_reducible rfl
              refine wpAny_take (i := 4) (v := undef) rfl (by kernel_rfl) (by kernel_rfl) (by kernel_rfl) (fun _ _ _ h => h) (Or.inr ⟨by kernel_rfl, rfl⟩) ?_
              refine wpAny_take (i := 5) (v := undef) rfl (by kernel_rfl) (by kernel_rfl) (by kernel_rfl) (fun _ _ _ h => h) (Or.inr ⟨by kernel_rfl, rfl⟩) ?_
              refine wpAny_take (i := 6) (v := undef) rfl (by kernel_rfl) (by kernel_rfl) (by kernel_rfl) (fun _ _ _ h => h) (Or.inr ⟨by kernel_rfl, rfl⟩) ?_
              refine wpAny_take (i := 7) (v := ?_) rfl (by kernel_rfl) (by kernel_rfl) (by kernel_rfl) (fun _ _ _ h => h) (Or.inl ⟨by kernel_rfl, ?_⟩) ?_
              rotate_left
              · intro w
                go_simp
                try with_reducible rfl
              refine wpAny_take (i := 8) (v := ?_) rfl (by kernel_rfl) (by kernel_rfl) (by kernel_rfl) (fun _ _ _ h => h) (Or.inl ⟨by kernel_rfl, ?_⟩) ?_
              rotate_left
              · intro w
                go_simp
                try with_reducible rfl
              refine wpAny_take (i := 9) (v := undef) rfl (by kernel_rfl) (by kernel_rfl) (by kernel_rfl) (fun _ _ _ h => h) (Or.inr ⟨by kernel_rfl, rfl⟩) ?_
              refine wpAny_take (i := 10) (v := undef) rfl (by kernel_rfl) (by kernel_rfl) (by kernel_rfl) (fun _ _ _ h => h) (Or.inr ⟨by kernel_rfl, rfl⟩) ?_
              refine wpAny_take (i := 11) (v := undef) rfl (by kernel_rfl) (by kernel_rfl) (by kernel_rfl) (fun _ _ _ h => h) (Or.inr ⟨by kernel_rfl, rfl⟩) ?_
              refine wpAny_take (i := 12) (v := undef) rfl (by kernel_rfl) (by kernel_rfl) (by kernel_rfl) (fun _ _ _ h => h) (Or.inr ⟨by kernel_rfl, rfl⟩) ?_
              refine wpAny_take (i := 13) (v := undef) rfl (by kernel_rfl) (by kernel_rfl) (by kernel_rfl) (fun _ _ _ h => h) (Or.inr ⟨by kernel_rfl, rfl⟩) ?_
              refine wpAny_take (i := 14) (v := undef) rfl (by kernel_rfl) (by kernel_rfl) (by kernel_rfl) (fun _ _ _ h => h) (Or.inr ⟨by kernel_rfl, rfl⟩) ?_
              refine wpAny_take (i := 15) (v := undef) rfl (by kernel_rfl) (by kernel_rfl) (by kernel_rfl) (fun _ _ _ h => h) (Or.inr ⟨by kernel_rfl, rfl⟩) ?_
              refine wpAny_take (i := 16) (v := undef) rfl (by kernel_rfl) (by kernel_rfl) (by kernel_rfl) (fun _ _ _ h => h) (Or.inr ⟨by kernel_rfl, rfl⟩) ?_
              refine wpAny_take (i := 17) (v := undef) rfl (by kernel_rfl) (by kernel_rfl) (by kernel_rfl) (fun _ _ _ h => h) (Or.inr ⟨by kernel_rfl, rfl⟩) ?_
              refine wpAny_take (i := 18) (v := ?_) rfl (by kernel_rfl) (by kernel_rfl) (by kernel_rfl) (fun _ _ _ h => h) (Or.inl ⟨by kernel_rfl, ?_⟩) ?_
              rotate_left
              · intro w
                go_simp
                try with_reducible rfl
              refine wpAny_done (by kernel_rfl) ?_ _
              go_simp
              go_wp2_with fail
              go_meet
              exact ⟨by rw [HRV.out]; rfl, ⟨rfl, rfl, rfl, Nat.le_refl _, fun _ _ _ => rfl⟩⟩
            | true =>
              by_cases hjk : j = k
              · have HJK := keepH hjk
                have n1 : ((j : Int) != (k : Int)) = false := by simp [hjk]
                clear hjk
                refine wp_region_any (by kernel_rfl) ?_
                change wpAny _ _ _ _ _ _ _ (World.drew _)
                refine wpAny_take (i := 0) (v := ?_) rfl (by kernel_rfl) (by kernel_rfl) (by kernel_rfl) (fun _ _ _ h => h) (Or.inl ⟨by kernel_rfl, ?_⟩) ?_
                rotate_left
                · intro w
                  go_simp
                  try with_reducible rfl
                refine wpAny_take (i := 1) (v := ?_) rfl (by kernel_rfl) (by kernel_rfl) (by kernel_rfl) (fun _ _ _ h => h) (Or.inl ⟨by kernel_rfl, ?_⟩) ?_
                rotate_left
                · intro w
                  go_simp
                  try with_reducible rfl
                refine wpAny_ready (rs := [2]) (by kernel_rfl) (by simp) ?_
                refine AllReady.cons rfl (fun K hK => ?_) AllReady.nil
                go_simp
                go_wp2_with (go_at_call 38; refine (r_isLeft HLJ.out _ _ _ HBD.out).mono ?_; rintro e w1 ⟨rfl, rfl⟩)
                refine wpAny_take (i := 3) (v := ?_) rfl (by kernel_rfl) (by kernel_rfl) (by kernel_rfl) (fun _ _ _ h => h) (Or.inl ⟨by kernel_rfl, ?_⟩) ?_
                rotate_left
                · intro w
                  go_simp
                  try with_reducible rfl
                refine wpAny_take (i := 4) (v := ?_) rfl (by kernel_rfl) (by kernel_rfl) (by kernel_rfl) (fun _ _ _ h => h) (Or.inl ⟨by kernel_rfl, ?_⟩) ?_
                rotate_left
                · intro w
                  go_simp
                  try with_reducible rfl
                refine wpAny_take (i := 5) (v := ?_) rfl (by kernel_rfl) (by kernel_rfl) (by kernel_rfl) (fun _ _ _ h => h) (Or.inl ⟨by kernel_rfl, ?_⟩) ?_
                rotate_left
                · intro w
                  go_simp
                  try with_reducible rfl
                refine wpAny_take (i := 6) (v := .bool false) rfl (by kernel_rfl) (by kernel_rfl) (by kernel_rfl) (fun _ _ _ h => h) (Or.inl ⟨by kernel_rfl, ?_⟩) ?_
                · intro w
                  go_simp
                  all_goals (first | assumption | omega | (simp; omega))
                refine wpAny_take (i := 7) (v := ?_) rfl (by kernel_rfl) (by kernel_rfl) (by kernel_rfl) (fun _ _ _ h => h) (Or.inl ⟨by kernel_rfl, ?_⟩) ?_
                rotate_left
                · intro w
                  go_simp
                  try with_reducible rfl
                refine wpAny_take (i := 8) (v := ?_) rfl (by kernel_rfl) (by kernel_rfl) (by kernel_rfl) (fun _ _ _ h => h) (Or.inl ⟨by kernel_rfl, ?_⟩) ?_
                rotate_left
                · intro w
                  go_simp
                  try with_reducible rfl
                refine wpAny_take (i := 9) (v := undef) rfl (by kernel_rfl) (by kernel_rfl) (by kernel_rfl) (fun _ _ _ h => h) (Or.inr ⟨by kernel_rfl, rfl⟩) ?_
                refine wpAny_take (i := 10) (v := undef) rfl (by kernel_rfl) (by kernel_rfl) (by kernel_rfl) (fun _ _ _ h => h) (Or.inr ⟨by kernel_rfl, rfl⟩) ?_
                refine wpAny_take (i := 11) (v := undef) rfl (by kernel_rfl) (by kernel_rfl) (by kernel_rfl) (fun _ _ _ h => h) (Or.inr ⟨by kernel_rfl, rfl⟩) ?_
                refine wpAny_take (i := 12) (v := undef) rfl (by kernel_rfl) (by kernel_rfl) (by kernel_rfl) (fun _ _ _ h => h) (Or.inr ⟨by kernel_rfl, rfl⟩) ?_
                refine wpAny_take (i := 13) (v := undef) rfl (by kernel_rfl) (by kernel_rfl) (by kernel_rfl) (fun _ _ _ h => h) (Or.inr ⟨by kernel_rfl, rfl⟩) ?_
                refine wpAny_take (i := 14) (v := undef) rfl (by kernel_rfl) (by kernel_rfl) (by kernel_rfl) (fun _ _ _ h => h) (Or.inr ⟨by kernel_rfl, rfl⟩) ?_
                refine wpAny_take (i := 15) (v := undef) rfl (by kernel_rfl) (by kernel_rfl) (by kernel_rfl) (fun _ _ _ h => h) (Or.inr ⟨by kernel_rfl, rfl⟩) ?_
                refine wpAny_take (i := 16) (v := undef) rfl (by kernel_rfl) (by kernel_rfl) (by kernel_rfl) (fun _ _ _ h => h) (Or.inr ⟨by kernel_rfl, rfl⟩) ?_
                refine wpAny_take (i := 17) (v := undef) rfl (by kernel_rfl) (by kernel_rfl) (by kernel_rfl) (fun _ _ _ h => h) (Or.inr ⟨by kernel_rfl, rfl⟩) ?_
                refine wpAny_take (i := 18) (v := ?_) rfl (by kernel_rfl) (by kernel_rfl) (by kernel_rfl) (fun _ _ _ h => h) (Or.inl ⟨by kernel_rfl, ?_⟩) ?_
                rotate_left
                · intro w
                  go_simp
                  try with_reducible rfl
                refine wpAny_done (by kernel_rfl) ?_ _
                go_simp
                go_wp2_with fail
                go_meet
                exact ⟨by rw [HRV.out, HJK.out]; simp, ⟨rfl, rfl, rfl, Nat.le_refl _, fun _ _ _ => rfl⟩⟩
              · have n1 : ((j : Int) != (k : Int)) = true := by simp; omega
                have HJK := keepH hjk
                clear hjk
                refine wp_region_any (by kernel_rfl) ?_
                change wpAny _ _ _ _ _ _ _ (World.drew _)
                refine wpAny_take (i := 0) (v := ?_) rfl (by kernel_rfl) (by kernel_rfl) (by kernel_rfl) (fun _ _ _ h => h) (Or.inl ⟨by kernel_rfl, ?_⟩) ?_
                rotate_left
                · intro w
                  go_simp
                  try with_reducible rfl
                refine wpAny_take (i := 1) (v := ?_) rfl (by kernel_rfl) (by kernel_rfl) (by kernel_rfl) (fun _ _ _ h => h) (Or.inl ⟨by kernel_rfl, ?_⟩) ?_
                rotate_left
                · intro w
                  go_simp
                  try with_reducible rfl
                refine wpAny_ready (rs := [2]) (by kernel_rfl) (by simp) ?_
                refine AllReady.cons rfl (fun K hK => ?_) AllReady.nil
                go_simp
                go_wp2_with (go_at_call 38; refine (r_isLeft HLJ.out _ _ _ HBD.out).mono ?_; rintro e w1 ⟨rfl, rfl⟩)
                refine wpAny_take (i := 3) (v := ?_) rfl (by kernel_rfl) (by kernel_rfl) (by kernel_rfl) (fun _ _ _ h => h) (Or.inl ⟨by kernel_rfl, ?_⟩) ?_
                rotate_left
                · intro w
                  go_simp
                  try with_reducible rfl
                refine wpAny_take (i := 4) (v := ?_) rfl (by kernel_rfl) (by kernel_rfl) (by kernel_rfl) (fun _ _ _ h => h) (Or.inl ⟨by kernel_rfl, ?_⟩) ?_
                rotate_left
                · intro w
                  go_simp
                  try with_reducible rfl
                refine wpAny_take (i := 5) (v := ?_) rfl (by kernel_rfl) (by kernel_rfl) (by kernel_rfl) (fun _ _ _ h => h) (Or.inl ⟨by kernel_rfl, ?_⟩) ?_
                rotate_left
                · intro w
                  go_simp
                  try with_reducible rfl
                refine wpAny_take (i := 6) (v := .bool true) rfl (by kernel_rfl) (by kernel_rfl) (by kernel_rfl) (fun _ _ _ h => h) (Or.inl ⟨by kernel_rfl, ?_⟩) ?_
                · intro w
                  go_simp
                  all_goals (first | assumption | omega | (simp; omega))
                refine wpAny_take (i := 7) (v := ?_) rfl (by kernel_rfl) (by kernel_rfl) (by kernel_rfl) (fun _ _ _ h => h) (Or.inl ⟨by kernel_rfl, ?_⟩) ?_
                rotate_left
                · intro w
                  go_simp
                  try with_reducible rfl
                refine wpAny_take (i := 8) (v := ?_) rfl (by kernel_rfl) (by kernel_rfl) (by kernel_rfl) (fun _ _ _ h => h) (Or.inl ⟨by kernel_rfl, ?_⟩) ?_
                rotate_left
                · intro w
                  go_simp
                  try with_reducible rfl
                refine wpAny_take (i := 9) (v := ?_) rfl (by kernel_rfl) (by kernel_rfl) (by kernel_rfl) (fun _ _ _ h => h) (Or.inl ⟨by kernel_rfl, ?_⟩) ?_
                rotate_left
                · intro w
                  go_simp
                  try with_reducible rfl
                refine wpAny_take (i := 10) (v := ?_) rfl (by kernel_rfl) (by kernel_rfl) (by kernel_rfl) (fun _ _ _ h => h) (Or.inl ⟨by kernel_rfl, ?_⟩) ?_
                rotate_left
                · intro w
                  go_simp
                  try with_reducible rfl
                refine wpAny_take (i := 11) (v := ?_) rfl (by kernel_rfl) (by kernel_rfl) (by kernel_rfl) (fun _ _ _ h => h) (Or.inl ⟨by kernel_rfl, ?_⟩) ?_
                rotate_left
                · intro w
                  go_simp
                  try with_reducible rfl
                refine wpAny_take (i := 13) (v := ?_) rfl (by kernel_rfl) (by kernel_rfl) (by kernel_rfl) (fun _ _ _ h => h) (Or.inl ⟨by kernel_rfl, ?_⟩) ?_
                rotate_left
                · intro w
                  go_simp
                  try with_reducible rfl
                refine wpAny_take (i := 14) (v := ?_) rfl (by kernel_rfl) (by kernel_rfl) (by kernel_rfl) (fun _ _ _ h => h) (Or.inl ⟨by kernel_rfl, ?_⟩) ?_
                rotate_left
                · intro w
                  go_simp
                  try with_reducible rfl
                refine wpAny_take (i := 15) (v := ?_) rfl (by kernel_rfl) (by kernel_rfl) (by kernel_rfl) (fun _ _ _ h => h) (Or.inl ⟨by kernel_rfl, ?_⟩) ?_
                rotate_left
                · intro w
                  go_simp
                  try with_reducible rfl
                refine wpAny_ready (rs := [12, 16]) (by kernel_rfl) (by simp) ?_
                refine AllReady.cons rfl (fun K hK => ?_) ?_
                · go_simp
                  refine hK _ _ ?_
                  clear hK K
                  refine wpAny_ready (rs := [16]) (by kernel_rfl) (by simp) ?_
                  refine AllReady.cons rfl (fun K hK => ?_) AllReady.nil
                  go_simp
                  refine hK _ _ ?_
                  clear hK K
                  refine wpAny_ready (rs := [17]) (by kernel_rfl) (by simp) ?_
                  refine AllReady.cons rfl (fun K hK => ?_) AllReady.nil
                  go_simp
                  go_wp2_with (go_at_call 18; refine (r_ahead_b HAB.out _).mono ?_; rintro e w2 ⟨rfl, C1⟩; have HC2 : Hid (Chg (fun _ => False) wx w2) := ⟨C1.os, C1.tape, C1.output, C1.size, C1.block⟩; clear C1)
                  refine wpAny_take (i := 18) (v := ?_) rfl (by kernel_rfl) (by kernel_rfl) (by kernel_rfl) (fun _ _ _ h => h) (Or.inl ⟨by kernel_rfl, ?_⟩) ?_
                  rotate_left
                  · intro w
                    go_simp
                    try with_reducible rfl
                  refine wpAny_done (by kernel_rfl) ?_ _
                  go_simp
                  go_wp2_with fail
                  go_meet
                  exact ⟨by rw [HRV.out]; have e1 : (j == k) = false := (by simpa using HJK.out); rw [e1]; simp, HC2⟩
                refine AllReady.cons rfl (fun K hK => ?_) AllReady.nil
                · go_simp
                  refine hK _ _ ?_
                  clear hK K
                  refine wpAny_ready (rs := [12]) (by kernel_rfl) (by simp) ?_
                  refine AllReady.cons rfl (fun K hK => ?_) AllReady.nil
                  go_simp
                  refine hK _ _ ?_
                  clear hK K
                  refine wpAny_ready (rs := [17]) (by kernel_rfl) (by simp) ?_
                  refine AllReady.cons rfl (fun K hK => ?_) AllReady.nil
                  go_simp
                  go_wp2_with (go_at_call 18; refine (r_ahead_b HAB.out _).mono ?_; rintro e w2 ⟨rfl, C1⟩; have HC2 : Hid (Chg (fun _ => False) wx w2) := ⟨C1.os, C1.tape, C1.output, C1.size, C1.block⟩; clear C1)
                  refine wpAny_take (i := 18) (v := ?_) rfl (by kernel_rfl) (by kernel_rfl) (by kernel_rfl) (fun _ _ _ h => h) (Or.inl ⟨by kernel_rfl, ?_⟩) ?_
                  rotate_left
                  · intro w
                    go_simp
                    try with_reducible rfl
                  refine wpAny_done (by kernel_rfl) ?_ _
                  go_simp
                  go_wp2_with fail
                  go_meet
                  exact ⟨by rw [HRV.out]; have e1 : (j == k) = false := (by simpa using HJK.out); rw [e1]; simp, HC2⟩
          case rest =>
            obtain ⟨wz, hwz⟩ : ∃ wz, wz = wc := ⟨_, rfl⟩
            rw [← hwz] at hcut ⊢
            clear hwz
            obtain ⟨rfl, HC⟩ := hcut
            have HCZ := keepH (HJ.out.trans HC.out (H := fun _ => False) (fun _ _ x => x) (fun _ _ x => x))
            clear c0 c1 c2 c3 f0 f1 f2 f3
            cases rb with
            | true =>
              go_wp2_with fail
              go_roundw
              case rel =>
                refine ⟨j + 1, by omega, ?_, by first | rfl | go_num, HCZ⟩
                rw [freeN, if_pos HRB.out.symm]
              case measure => simp [intOf]; omega
            | false =>
              go_wp2_with fail
              go_roundw
              case rel =>
                refine ⟨j + 1, by omega, ?_, by first | rfl | go_num, HCZ⟩
                rw [freeN, if_neg (by rw [← HRB.out]; simp), ← HFR.out]
              case measure => simp [intOf]; omega
        · obtain rfl : j = l.length := by omega
          have t2 : ¬ (l.length : Int) < (l.length : Int) := by omega
          have HFF : Hid (fr = true ↔ FirstP l bs k) := by show _ ↔ _; rw [HFR.out]; exact free_first
          have HRZ : Hid (wx.ownsRow 0 3 1 vv fl (iRow (firstsN l bs k))) := by rw [HFL.out]; exact (HK.out.quiet HJ.out).row
          cases fr with
          | false =>
            go_wp2_with fail
            go_roundw
            case rel => exact ⟨k + 1, by omega, by first | rfl | go_num, keepH ((HK.out.quiet HJ.out).skip (fun hf => by have := HFF.out.2 hf; simp at this))⟩
            case measure => simp [intOf]; omega
          | true =>
            have hi := HI.out
            go_wp2_with (first | (at_builtin; refine wpList_append_own_at _ rfl (.tmp 44) (.tmp 46) 32 rfl 0 3 i0 (.int .i64 0) 1 8 Try.underlying32 hi hz0 hz1 hz2 rfl (by decide) vv fl (iRow (firstsN l bs k)) rfl (HRZ.out.alloc _) ⟨wx.heap.size, 0, none⟩ 1 1 [.int .i64 (k : Int)] rfl rfl (cells_new _ _ rfl _ _) (by intro u hu; simp at hu; subst hu; rfl) (by unfold maxLen; omega) (by omega) (Nat.zero_le _) ?_; intro v2 w2 r1 r2 r3 r4; have R1 := keepH r1; have R2 := keepH r2; have R4 := keepH r4; clear r1 r2 r3 r4) | go_in)
            go_roundw
            case rel => exact ⟨k + 1, by omega, by first | rfl | go_num, keepH ((HK.out.quiet HJ.out).more (HFF.out.1 (by first | rfl | trivial)) (by rw [← HFL.out]; exact R1.out) R2.out R4.out)⟩
            case measure => simp [intOf]; omega
    · obtain rfl : k = l.length := by omega
      have t1 : ¬ (l.length : Int) < (l.length : Int) := by omega
      go_wp2_with fail
      go_ret
      exact ⟨u5, by simp, HK.out.row, HK.out.new, HK.out.chg⟩
end Go.Proofs.Ytmdeodijcmeflaa
