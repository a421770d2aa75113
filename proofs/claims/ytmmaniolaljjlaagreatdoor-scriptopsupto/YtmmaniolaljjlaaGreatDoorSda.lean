/- The document's numbers. -/
import Derived.Test.YtmmaniolaljjlaaGreatDoorScw
namespace Go.Proofs.YtmmaniolaljjlaaGreatDoor
open Go.RowKit Go.Shelf Go.Maps
set_option linter.unusedVariables false

def NumQ (f : List UInt8) (v : Value) : Prop := ∃ u : Nat, v = .int .u64 (u : Int) ∧ isU u ∧ ∀ z, natP f = some z → u = z
set_option maxRecDepth 100000 in
theorem dNumber_any (f : List UInt8) (hf : f.length ≤ 200000000) (w : World) (T : Tb w) : Calls Tryz.prog 80 #[.string (mkS f)] w fun e w' => ∃ v, e = .returned v ∧ NumQ f v ∧ Below w.heap.size w w' := by
  by_cases hp : ∃ u, Lib.parseMag f = .ok u
  · obtain ⟨u, hp⟩ := hp
    have h1 := pu_ok f hf u hp w
    have HQ : Hid (NumQ f (.int .u64 (u : Int))) := keepH ⟨u, rfl, Lib.parseMag_lt hp, fun z hz => by
      unfold natP at hz
      rw [hp] at hz
      simp only at hz
      split at hz
      · injection hz
      · cases hz⟩
    obtain ⟨s, hs⟩ : ∃ s, s = mkS f := ⟨_, rfl⟩
    rw [← hs] at h1 ⊢
    clear hs hp T
    go_enter Tryz.func80, Tryz.ntmps80
    go_wp2_with fail
    refine h1.mono ?_
    rintro e w1 ⟨rfl, hb⟩
    go_wp2_with fail
    go_ret
    exact ⟨_, rfl, HQ.out, hb⟩
  · have h1 := pu_no f hf (fun u e => hp ⟨u, e⟩) w T
    have hnone : Hid (∀ z, natP f ≠ some z) := keepH (fun z hz => by
      unfold natP at hz
      split at hz
      · rename_i u hu
        exact hp ⟨u, hu⟩
      · cases hz)
    obtain ⟨s, hs⟩ : ∃ s, s = mkS f := ⟨_, rfl⟩
    rw [← hs] at h1 ⊢
    clear hs hp T
    go_enter Tryz.func80, Tryz.ntmps80
    go_wp2_with fail
    refine h1.mono ?_
    rintro e w1 ⟨⟨u, t, p, hu, rfl⟩, hb⟩
    go_wp2_with fail
    go_ret
    exact ⟨_, rfl, ⟨u, rfl, hu, fun z hz => absurd hz (hnone.out z)⟩, hb⟩


/-- each is the number of its text, where the text is one's -/
def NumsQ (fs : List (List UInt8)) (us : List Nat) : Prop := us.length = fs.length ∧ (∀ u ∈ us, isU u) ∧ ∀ (i : Nat) (f : List UInt8) (u z : Nat), fs[i]? = some f → us[i]? = some u → natP f = some z → u = z
theorem NumsQ.dec {us us' : List Nat} (h : NumsQ (us'.map Lib.decDigits) us) (hu : ∀ u ∈ us', isU u) : us = us' := by
  apply List.ext_getElem
  · rw [h.1, List.length_map]
  · intro i h1 h2
    exact h.2.2 i _ _ _ (by rw [List.getElem?_map, List.getElem?_eq_getElem h2]; rfl) (List.getElem?_eq_getElem h1) (natP_dec _ (hu _ (List.getElem_mem h2)))
set_option maxRecDepth 100000 in
set_option maxHeartbeats 4000000 in
theorem dNumbers_any (p : Option Addr) (c : Nat) (fs : List (List UInt8)) (hl : fs.length ≤ 200000000) (hf : ∀ f ∈ fs, f.length ≤ 200000000) (W : World) (T : Tb W) (h : SRd W p fs) :
    Calls Tryz.prog 34 #[.slice p fs.length c] W fun e W' => ∃ us v, e = .returned v ∧ NumsQ fs us ∧ StU W us v W' := by
  have HNA := keepH (fun f (hm : f ∈ fs) w (hb : Below W.heap.size W w) => dNumber_any f (hf f hm) w (T.on hb))
  have HR := keepH h
  obtain ⟨n, hn⟩ : ∃ n, n = fs.length := ⟨_, rfl⟩
  have HN := keepH hn
  rw [← hn] at hl ⊢
  obtain ⟨i0, hi0, hz0, hz1, hz2⟩ := info_parts infoU
  have HI := keepH hi0
  clear h T hf hn hi0
  go_enter Tryz.func34, Tryz.ntmps34
  go_wp2_with fail
  go_loopw [3, 4] (fun v s wr => ∃ i : Nat, i ≤ n ∧ s = .int .i64 (i : Int) ∧ Hid (∃ us, NumsQ (fs.take i) us ∧ StU W us v wr)) (fun _ s _ => n - (intOf s).toNat)
  case atStart => exact ⟨0, by omega, rfl, keepH ⟨[], ⟨by simp, fun u hu => by simp at hu, fun i f u z hh => by simp at hh⟩, World.ownsRow_nil _ _ _ _, Below.refl _ _, fun b hb => by simp [Value.ownBlock] at hb⟩⟩
  case round =>
    obtain ⟨i, him, rfl, HK⟩ := hrel
    obtain ⟨us, hus, hst⟩ := HK.out
    have HUS := keepH hus
    have HST := keepH hst
    have hul : us.length = i := by
      rw [hus.1, List.length_take]
      have := HN.out
      omega
    have HUL := keepH hul
    clear hus hst HK hul
    by_cases hlt : i < n
    · have t1 : (i : Int) < (n : Int) := by omega
      have t0 : (0 : Int) ≤ (i : Int) := by omega
      obtain ⟨f, hfi⟩ : ∃ f, fs[i]? = some f := ⟨fs[i]'(by have := HN.out; omega), List.getElem?_eq_getElem _⟩
      obtain ⟨bk, off, rfl, hbk, c0⟩ := (HR.out.on HST.out.bel).get i f hfi
      have HQ := keepH (HNA.out f (List.mem_of_getElem? hfi) wr HST.out.bel)
      have HFI := keepH hfi
      obtain ⟨sf, hsf⟩ : ∃ s, s = mkS f := ⟨_, rfl⟩
      rw [← hsf] at c0 HQ
      clear hfi hsf
      go_wp2_with fail
      refine HQ.out.mono ?_
      rintro e w2 ⟨v2, rfl, ⟨x, rfl, hxu, hxz⟩, B2⟩
      have HS2 := keepH (HST.out.on B2)
      have HNX : Hid (NumsQ (fs.take (i + 1)) (us ++ [x])) := keepH (by
        refine ⟨by rw [List.length_append, HUS.out.1, List.take_add_one, HFI.out]; simp, fun u hu => ?_, fun j f' u z h1 h2 h3 => ?_⟩
        · rcases List.mem_append.1 hu with hu | hu
          · exact HUS.out.2.1 u hu
          · simp at hu; subst hu; exact hxu
        · rw [List.take_add_one, HFI.out] at h1
          have hil : (fs.take i).length = i := by rw [← HUS.out.1, HUL.out]
          by_cases hj : j < i
          · rw [List.getElem?_append_left (by omega)] at h1
            rw [List.getElem?_append_left (by rw [HUL.out]; exact hj)] at h2
            exact HUS.out.2.2 j f' u z h1 h2 h3
          · rw [List.getElem?_append_right (by omega), hil] at h1
            rw [List.getElem?_append_right (by rw [HUL.out]; omega), HUL.out] at h2
            have hj0 : j - i = 0 := by
              have := (List.getElem?_eq_some_iff.1 h2).1
              simp at this
              exact this
            rw [hj0] at h1 h2
            simp at h1 h2
            subst h1 h2
            exact hxz z h3)
      obtain ⟨fl, hfl⟩ : ∃ fl, fl = us.length := ⟨_, rfl⟩
      have hfl2 : fl ≤ 200000000 := by have := HUL.out; omega
      have HRW : Hid (w2.ownsRow 0 23 1 u3 fl (uRow us)) := keepH (by rw [hfl]; exact HS2.out.row)
      have hi0 := HI.out
      have HFL := keepH hfl
      clear hfl hxu hxz B2 c0
      go_wp2_with (first | (at_builtin; refine wpList_append_own_at _ rfl (.tmp 11) (.tmp 17) 26 rfl 0 23 i0 (.int .u64 0) 1 8 Tryz.underlying26 hi0 hz0 hz1 hz2 rfl (by decide) u3 fl (uRow us) rfl (HRW.out.alloc _) ⟨w2.heap.size, 0, none⟩ 1 1 [.int .u64 (x : Int)] rfl rfl (cells_newR _ _ rfl _ _) (by intro u hu; simp at hu; subst hu; rfl) (by unfold maxLen; omega) (by omega) (Nat.zero_le _) ?_; intro v9 w9 r1 r2 r3 r4; have R1 := keepH r1; have R2 := keepH r2; have R4 := keepH r4; clear r1 r2 r3 r4) | go_in)
      have HNS := keepH (HS2.out.more (x := x) (by rw [← HFL.out]; exact R1.out) R2.out R4.out)
      go_roundw
      case rel => exact ⟨i + 1, by omega, by first | rfl | go_num, keepH ⟨_, HNX.out, HNS.out⟩⟩
      case measure => simp [intOf]; omega
    · obtain rfl : i = n := by omega
      have t1 : ¬ (i : Int) < (i : Int) := by omega
      have hu := HUS.out
      rw [HN.out, List.take_length] at hu
      have HU := keepH hu
      clear hu
      go_wp2_with fail
      go_ret
      exact ⟨us, u3, by simp, HU.out, HST.out⟩
end Go.Proofs.YtmmaniolaljjlaaGreatDoor
