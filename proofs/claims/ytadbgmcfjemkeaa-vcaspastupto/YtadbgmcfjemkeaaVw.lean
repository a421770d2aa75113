/- The versions of an object: the program's and the document's rows. -/
import Derived.Test.YtadbgmcfjemkeaaVv
import Derived.Test.YtadbgmcfjemkeaaSExt
namespace Go.Proofs.Ytadbgmcfjemkeaa
open Go.RowKit Go.Shelf
set_option linter.unusedVariables false

def isV (most h : Nat) : Prop := h ≠ 0 ∧ h + 2 < most
instance (most h : Nat) : Decidable (isV most h) := by unfold isV; infer_instance
def hN (cs : List Nat) (obj : Nat) : Nat → Nat
  | 0 => cellN cs obj
  | k + 1 => cellN cs (hN cs obj k + 2)
def verRow (cs : List Nat) (obj : Nat) : Nat → List Value
  | 0 => []
  | k + 1 => verRow cs obj k ++ [.int .u64 (cellN cs (hN cs obj k) : Int), .int .u64 (cellN cs (hN cs obj k + 1) : Int)]
theorem verRow_length (cs : List Nat) (obj k : Nat) : (verRow cs obj k).length = 2 * k := by
  induction k with
  | zero => rfl
  | succ k ih => simp [verRow, ih]; omega
theorem verRow_get (cs : List Nat) (obj k i : Nat) (h : i < k) : (verRow cs obj k)[2 * i]? = some (.int .u64 (cellN cs (hN cs obj i) : Int)) ∧ (verRow cs obj k)[2 * i + 1]? = some (.int .u64 (cellN cs (hN cs obj i + 1) : Int)) := by
  induction k with
  | zero => omega
  | succ k ih =>
    unfold verRow
    by_cases c : i < k
    · rw [List.getElem?_append_left (by rw [verRow_length]; omega), List.getElem?_append_left (by rw [verRow_length]; omega)]
      exact ih c
    · obtain rfl : i = k := by omega
      rw [List.getElem?_append_right (by rw [verRow_length]; omega), List.getElem?_append_right (by rw [verRow_length]; omega), verRow_length]
      rw [show 2 * i - 2 * i = 0 by omega, show 2 * i + 1 - 2 * i = 1 by omega]
      exact ⟨rfl, rfl⟩
def Stops (cs : List Nat) (most obj K : Nat) : Prop := K ≤ most ∧ (∀ i, i < K → isV most (hN cs obj i)) ∧ ¬ (isV most (hN cs obj K) ∧ K < most)
theorem Stops.one {cs : List Nat} {most obj K L : Nat} (h : Stops cs most obj K) (g : Stops cs most obj L) : K = L := by
  obtain ⟨h1, h2, h3⟩ := h
  obtain ⟨g1, g2, g3⟩ := g
  by_cases c : K < L
  · exact absurd ⟨g2 K c, by omega⟩ h3
  · by_cases c2 : L < K
    · exact absurd ⟨h2 L c2, by omega⟩ g3
    · omega
structure VI (cs : List Nat) (obj : Nat) (W w : World) (k : Nat) (v : Value) : Prop where
  row : w.ownsRow 0 43 2 v k (verRow cs obj k)
  chg : Chg (fun _ => False) W w
  new : ∀ g, v.ownBlock = some g → W.heap.size ≤ g
theorem VI.more {cs : List Nat} {obj : Nat} {W w1 w2 : World} {k : Nat} {v v' : Value} {o : Obj} (h : VI cs obj W w1 k v) (hr : w2.ownsRow 0 43 2 v' (k + 1) (verRow cs obj k ++ [.int .u64 (cellN cs (hN cs obj k) : Int), .int .u64 (cellN cs (hN cs obj k + 1) : Int)])) (hg : (w1.alloc o).grownBy w2 v.ownBlock) (hw : v'.ownBlock = v.ownBlock ∨ v'.ownBlock = some (w1.alloc o).heap.size) : VI cs obj W w2 (k + 1) v' := by
  have c2 : Chg (fun b => v.ownBlock = some b) w1 w2 := ((Chg.refl (fun b => v.ownBlock = some b) w1).alloc o).grown hg (fun k e _ => e)
  have hs := h.chg.size
  refine ⟨hr, h.chg.trans c2 (fun _ _ x => x) (fun i hi x => by have := h.new _ x; omega), fun g e => ?_⟩
  rcases hw with e1 | e1
  · rw [e1] at e
    exact h.new g e
  · rw [e1] at e
    simp only [World.size_alloc, Option.some.injEq] at e
    omega
theorem infoVer : (Try.prog.info? 43).map (fun i => (i.zero, i.size, i.bytes)) = some (some (.agg #[.int .u64 0, .int .u64 0]), 2, 16) := by kernel_rfl
theorem cellN_small {W : World} {F : Nat → Prop} {b most next : Nat} {cs : List Nat} {l : List Acc} (h : Bank W F b most next cs l) (i : Nat) : cellN cs i < 18446744073709551616 := by
  obtain ⟨cv, av, h⟩ := h
  unfold cellN
  by_cases c : i < cs.length
  · rw [List.getD_eq_getElem?_getD, List.getElem?_eq_getElem c]
    exact h.small _ (List.getElem_mem c)
  · rw [List.getD_eq_getElem?_getD, List.getElem?_eq_none (by omega)]
    simp
theorem hN_small {W : World} {F : Nat → Prop} {b most next : Nat} {cs : List Nat} {l : List Acc} (h : Bank W F b most next cs l) (obj k : Nat) : hN cs obj k < 18446744073709551616 := by
  cases k with
  | zero => exact cellN_small h _
  | succ k => exact cellN_small h _

set_option maxRecDepth 100000 in
theorem isv_any (m b most next h : Nat) (F : Nat → Prop) (cs : List Nat) (l : List Acc) (W : World) (hm : IsMem W m b) (hb : Bank W F b most next cs l) (hh : h < 18446744073709551616) (hmo : most ≤ 4194304) : Calls Try.prog 31 #[.pointer (some ⟨m, 0, none⟩), .int .u64 (h : Int)] W fun e W' => e = .returned (.bool (decide (isV most h))) ∧ W' = W := by
  have HM := keepH hm
  have HB := keepH hb
  have k1 : IntKind.u64.wrap (most : Int) = (most : Int) := u64_lt (by omega)
  clear hm hb
  by_cases h0 : h = 0
  · subst h0
    have dd : decide (isV most 0) = false := decide_eq_false (fun x => x.1 rfl)
    rw [dd]
    go_enter Try.func31, Try.ntmps31
    go_wp2_with fail
    refine (m_cells m b most next F cs l _ HM.out HB.out).mono ?_
    rintro e w ⟨rfl, rfl⟩
    go_wp2_with fail
    go_ret
    exact ⟨by simp, rfl⟩
  · have n0 : ((h : Int) != 0) = true := bne_iff_ne.2 (by omega)
    by_cases h1 : h < most
    · have i1 : (h : Int) < (most : Int) := by omega
      have k2 : IntKind.u64.wrap ((most : Int) - (h : Int)) = (most : Int) - (h : Int) := by rw [IntKind.wrap_u64]; omega
      by_cases h2 : h + 2 < most
      · have dd : decide (isV most h) = true := decide_eq_true ⟨h0, h2⟩
        have i2 : (3 : Int) ≤ (most : Int) - (h : Int) := by omega
        rw [dd]
        go_enter Try.func31, Try.ntmps31
        go_wp2_with fail
        refine (m_cells m b most next F cs l _ HM.out HB.out).mono ?_
        rintro e w ⟨rfl, rfl⟩
        go_wp2_with fail
        go_ret
        exact ⟨by simp, rfl⟩
      · have dd : decide (isV most h) = false := decide_eq_false (fun x => h2 x.2)
        have i2 : ¬ (3 : Int) ≤ (most : Int) - (h : Int) := by omega
        rw [dd]
        go_enter Try.func31, Try.ntmps31
        go_wp2_with fail
        refine (m_cells m b most next F cs l _ HM.out HB.out).mono ?_
        rintro e w ⟨rfl, rfl⟩
        go_wp2_with fail
        go_ret
        exact ⟨by simp [i2], rfl⟩
    · have i1 : ¬ (h : Int) < (most : Int) := by omega
      have dd : decide (isV most h) = false := decide_eq_false (fun x => by have := x.2; omega)
      rw [dd]
      go_enter Try.func31, Try.ntmps31
      go_wp2_with fail
      refine (m_cells m b most next F cs l _ HM.out HB.out).mono ?_
      rintro e w ⟨rfl, rfl⟩
      go_wp2_with fail
      go_ret
      exact ⟨by simp, rfl⟩

set_option maxRecDepth 100000 in
set_option maxHeartbeats 2000000 in
theorem versions_any (m b most next obj : Nat) (F : Nat → Prop) (cs : List Nat) (l : List Acc) (W : World) (hm : IsMem W m b) (hb : Bank W F b most next cs l) (ho : obj < 18446744073709551616) (hmo : most ≤ 4194304) :
    Calls Try.prog 11 #[.pointer (some ⟨m, 0, none⟩), .int .u64 (obj : Int)] W fun e W' => ∃ K v, e = .returned v ∧ Stops cs most obj K ∧ VI cs obj W W' K v := by
  obtain ⟨i0, hi, hz0, hz1, hz2⟩ := info_parts infoVer
  have HI := keepH hi
  have HM := keepH hm
  have HB := keepH hb
  have HSm : Hid (∀ k, hN cs obj k < 18446744073709551616) := fun k => hN_small hb obj k
  clear hm hb hi
  go_enter Try.func11, Try.ntmps11
  go_wp2_with fail
  refine (m_peek m b most next obj F cs l _ HM.out HB.out ho).mono ?_
  rintro e w0 ⟨rfl, rfl⟩
  go_wp2_with fail
  go_loopw [5, 6] (fun s5 s6 wr => ∃ k : Nat, k ≤ most ∧ s6 = .int .u64 (hN cs obj k : Int) ∧ Hid ((∀ i, i < k → isV most (hN cs obj i)) ∧ VI cs obj w0 wr k s5) ∧ lenV s5 = k) (fun s5 _ _ => most + 1 - lenV s5)
  case atStart => exact ⟨0, by omega, rfl, keepH ⟨fun i hi => by omega, World.ownsRow_nil _ _ _ _, Chg.refl _ _, fun g e => by simp [Value.ownBlock] at e⟩, rfl⟩
  case round =>
    obtain ⟨k, hk, rfl, HK, hlen⟩ := hrel
    obtain ⟨p5, c5, rfl⟩ := slice_of HK.out.2.row
    have HMr := keepH (HM.out.chg HK.out.2.chg (fun x => x))
    have HBr := keepH (HB.out.chg HK.out.2.chg (fun _ _ x => x))
    obtain ⟨h, hh⟩ : ∃ h, h = hN cs obj k := ⟨_, rfl⟩
    have HH := keepH hh
    have hb1 : h < 18446744073709551616 := by rw [hh]; exact HSm.out k
    rw [← hh]
    clear hh
    by_cases hv : isV most h
    · have dd : decide (isV most h) = true := decide_eq_true hv
      by_cases hkm : k < most
      · have i1 : (k : Int) < (most : Int) := by omega
        have hv2 : h + 2 < most := hv.2
        obtain ⟨a1, ha1⟩ : ∃ a1, a1 = h + 1 := ⟨_, rfl⟩
        obtain ⟨a2, ha2⟩ : ∃ a2, a2 = h + 2 := ⟨_, rfl⟩
        have k1 : IntKind.u64.wrap ((h : Int) + 1) = (a1 : Int) := by rw [IntKind.wrap_u64]; omega
        have k2 : IntKind.u64.wrap ((h : Int) + 2) = (a2 : Int) := by rw [IntKind.wrap_u64]; omega
        have b1 : a1 < 18446744073709551616 := by omega
        have b2 : a2 < 18446744073709551616 := by omega
        have HA1 := keepH ha1
        have HA2 := keepH ha2
        have HV := keepH hv
        have HRW := keepH HK.out.2.row
        clear ha1 ha2 hv hv2
        go_wp2_with fail
        refine (isv_any m b most next h F cs l _ HMr.out HBr.out hb1 hmo).mono ?_
        rintro e w1 ⟨rfl, rfl⟩
        go_wp2_with fail
        refine (m_cells m b most next F cs l _ HMr.out HBr.out).mono ?_
        rintro e w2 ⟨rfl, rfl⟩
        go_wp2_with fail
        refine (m_peek m b most next h F cs l _ HMr.out HBr.out hb1).mono ?_
        rintro e w2 ⟨rfl, rfl⟩
        go_wp2_with fail
        refine (m_peek m b most next a1 F cs l _ HMr.out HBr.out b1).mono ?_
        rintro e w2 ⟨rfl, rfl⟩
        have hi := HI.out
        go_wp2_with (first | (at_builtin; refine wpList_append_own_at _ rfl (.tmp 24) (.tmp 33) 37 rfl 0 43 i0 (.agg #[.int .u64 0, .int .u64 0]) 2 16 Try.underlying37 hi hz0 hz1 hz2 rfl (by decide) (.slice p5 k c5) k (verRow cs obj k) rfl (HRW.out.alloc _) ⟨w2.heap.size, 0, none⟩ 1 1 [.int .u64 (cellN cs h : Int), .int .u64 (cellN cs a1 : Int)] rfl rfl (cells_new _ _ rfl _ _) (by intro u hu; simp at hu; rcases hu with rfl | rfl <;> rfl) (by unfold maxLen; omega) (by omega) (Nat.zero_le _) ?_; intro v2 w3 r1 r2 r3 r4; have R1 := keepH r1; have R2 := keepH r2; have R4 := keepH r4; clear r1 r2 r3 r4) | fail)
        have HVI : Hid (VI cs obj w0 w3 (k + 1) v2) := HK.out.2.more (o := .cells #[.int .u64 (cellN cs h : Int), .int .u64 (cellN cs a1 : Int)] 43) (by rw [← HH.out, ← HA1.out]; exact R1.out) R2.out R4.out
        have HM3 := keepH (HM.out.chg HVI.out.chg (fun x => x))
        have HB3 := keepH (HB.out.chg HVI.out.chg (fun _ _ x => x))
        have hl2 : lenV v2 = k + 1 := by
          obtain ⟨p2, c2, rfl⟩ := slice_of R1.out
          rfl
        have HL2 := keepH hl2
        clear hl2
        refine (m_peek m b most next a2 F cs l _ HM3.out HB3.out b2).mono ?_
        rintro e w4 ⟨rfl, rfl⟩
        go_wp2_with fail
        go_roundw
        case rel => exact ⟨k + 1, by omega, by rw [HA2.out, HH.out]; rfl, keepH ⟨fun i hi => by
            by_cases e : i = k
            · subst e; rw [← HH.out]; exact HV.out
            · exact HK.out.1 i (by omega), HVI.out⟩, HL2.out⟩
        case measure =>
          have e1 := HL2.out
          change most + 1 - lenV v2 < most + 1 - lenV (Value.slice p5 k c5)
          omega
      · have i1 : ¬ (k : Int) < (most : Int) := by omega
        have i2 : decide ((k : Int) < (most : Int)) = false := decide_eq_false i1
        have HV := keepH hv
        clear hv
        go_wp2_with fail
        refine (isv_any m b most next h F cs l _ HMr.out HBr.out hb1 hmo).mono ?_
        rintro e w1 ⟨rfl, rfl⟩
        go_wp2_with fail
        refine (m_cells m b most next F cs l _ HMr.out HBr.out).mono ?_
        rintro e w2 ⟨rfl, rfl⟩
        go_wp2_with fail
        go_ret
        exact ⟨k, _, rfl, ⟨hk, HK.out.1, fun x => hkm x.2⟩, HK.out.2⟩
    · have dd : decide (isV most h) = false := decide_eq_false hv
      have HV := keepH hv
      clear hv
      go_wp2_with fail
      refine (isv_any m b most next h F cs l _ HMr.out HBr.out hb1 hmo).mono ?_
      rintro e w1 ⟨rfl, rfl⟩
      go_wp2_with fail
      go_ret
      exact ⟨k, _, rfl, ⟨hk, HK.out.1, fun x => HV.out (by rw [HH.out]; exact x.1)⟩, HK.out.2⟩
theorem ver_cell {W : World} {g n c : Nat} {cs : List Nat} {obj : Nat} (h : W.ownsRow 0 43 2 (.slice (some ⟨g, 0, none⟩) n c) n (verRow cs obj n)) (i : Nat) (u : Value) (hu : (verRow cs obj n)[i]? = some u) : W.cell? ⟨g, i, none⟩ = some u := by
  rw [World.ownsRow.cellAt h i (by have := (List.getElem?_eq_some_iff.1 hu).1; rw [verRow_length] at this; omega)]
  exact hu
end Go.Proofs.Ytadbgmcfjemkeaa
