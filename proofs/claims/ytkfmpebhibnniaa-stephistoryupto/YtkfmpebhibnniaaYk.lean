/- The law's procs of one list of plans, walked. -/
import Derived.Test.YtkfmpebhibnniaaYj
namespace Go.Proofs.Ytkfmpebhibnniaa
open Go.RowKit Go.Shelf
set_option linter.unusedVariables false

theorem infoPy : (Try.prog.info? 40).map (fun i => (i.zero, i.size, i.bytes)) = some (some .nilIface, 1, 16) := by kernel_rfl
theorem infoQy : (Try.prog.info? 59).map (fun i => (i.zero, i.size, i.bytes)) = some (some (.pointer none), 1, 8) := by kernel_rfl
theorem infoPsy : (Try.prog.info? 38).map (fun i => (i.zero, i.size, i.bytes)) = some (some (.slice none 0 0), 1, 24) := by kernel_rfl
theorem infoQsy : (Try.prog.info? 55).map (fun i => (i.zero, i.size, i.bytes)) = some (some (.slice none 0 0), 1, 24) := by kernel_rfl
theorem slice_row {W : World} {B : Nat} {e : TypeId} {s : Nat} {v : Value} {n : Nat} {xs : List Value} (h : W.ownsRow B e s v n xs) : ∃ p c, v = .slice p n c := by
  rcases h.2 with ⟨rfl, h0⟩ | ⟨g, cap, cur, rfl, _⟩
  · exact ⟨none, 0, by rw [h0]⟩
  · exact ⟨_, cap, rfl⟩
/-- What procs leaves. -/
structure PD (W Y : World) (l : List PlP) (lp : Nat → Option Addr) (lc pb : Nat → Nat) (g4 g5 : Nat) (v7 v8 : Value) : Prop where
  pb : PB W Y l lp lc pb l.length v7 v8
  a : ∃ cur : Array Value, Y.heap[g4]? = some (.cells cur 38 (0, 0)) ∧ cur[0]? = some v7
  b : ∃ cur : Array Value, Y.heap[g5]? = some (.cells cur 55 (0, 0)) ∧ cur[0]? = some v8
  lo : W.heap.size ≤ g4 ∧ W.heap.size ≤ g5
set_option maxRecDepth 100000 in
set_option maxHeartbeats 8000000 in
theorem pr_one {W : World} {B : Nat} {p : Option Addr} {l : List PlP} {lp : Nat → Option Addr} {lc : Nat → Nat} (hP : PlansAt W B p l lp lc) (hB : B ≤ W.heap.size) (hl : l.length ≤ 100000000000) {g c : Nat} (hg : W.cell? ⟨g, 0, none⟩ = some (.slice p l.length c)) :
    Calls Try.prog 9 #[.slice (some ⟨g, 0, none⟩) 1 1] W fun e Y => ∃ g4 g5 c4 c5, e = .returned (.tuple #[.slice (some ⟨g4, 0, none⟩) 1 c4, .slice (some ⟨g5, 0, none⟩) 1 c5]) ∧ ∃ v7 v8 pb, PD W Y l lp lc pb g4 g5 v7 v8 := by
  obtain ⟨i0, hi0, hz0, hz1, hz2⟩ := info_parts infoPy
  obtain ⟨j0, hj0, hy0, hy1, hy2⟩ := info_parts infoQy
  obtain ⟨k0, hk0, hx0, hx1, hx2⟩ := info_parts infoPsy
  obtain ⟨m0, hm0, hw0, hw1, hw2⟩ := info_parts infoQsy
  have HP := keepH hP
  have HG : Hid (∀ w', Chg (fun _ => False) W w' → w'.cell? ⟨g, 0, none⟩ = some (.slice p l.length c)) := fun w' cw => by
    have lg := World.block_lt_of_cell? W _ hg
    exact (World.cell?_of_block (w := W) (cw.block _ lg (fun x => x))).trans hg
  clear hP
  go_enter Try.func9, Try.ntmps9
  go_wp2_with fail
  go_loopw [4, 5, 6] (fun s4 s5 s6 wr => ∃ i : Nat, s6 = .int .i64 (i : Int) ∧ Hid ((i = 0 ∧ s4 = .slice none 0 0 ∧ s5 = .slice none 0 0 ∧ wr = W) ∨ (i = 1 ∧ ∃ g4 g5 c4 c5, s4 = .slice (some ⟨g4, 0, none⟩) 1 c4 ∧ s5 = .slice (some ⟨g5, 0, none⟩) 1 c5 ∧ ∃ v7 v8 pb, PD W wr l lp lc pb g4 g5 v7 v8))) (fun _ _ s _ => 1 - (intOf s).toNat)
  case atStart => exact ⟨0, rfl, .inl ⟨rfl, rfl, rfl, rfl⟩⟩
  case round =>
    obtain ⟨i, rfl, HX⟩ := hrel
    rcases HX.out with ⟨hi, rfl, rfl, eW⟩ | ⟨hi, g4, g5, c4, c5, rfl, rfl, hD⟩
    · have eW' : W = wr := eW.symm
      subst eW'
      have z1 : (i : Int) < 1 := by omega
      have z2 : i < 1 := by omega
      have HI := keepH hi
      have HGi : Hid (∀ w', Chg (fun _ => False) W w' → w'.cell? ⟨g, i, none⟩ = some (.slice p l.length c)) := fun w' cw => by rw [HI.out]; exact HG.out w' cw
      clear HX eW hi
      go_wp2_with fail
      go_loopw [7, 8, 9] (fun s7 s8 s9 wr => ∃ k : Nat, k ≤ l.length ∧ s9 = .int .i64 (k : Int) ∧ Hid (∃ pb, PB W wr l lp lc pb k s7 s8)) (fun _ _ s _ => l.length - (intOf s).toNat)
      case atStart => exact ⟨0, Nat.zero_le _, rfl, fun _ => 0, World.ownsRow_nil _ _ _ _, World.ownsRow_nil _ _ _ _, fun j q hj => by omega, fun j j' q q' _ h => by omega, Chg.refl _ _⟩
      case round =>
        obtain ⟨k, hkl, rfl, HY⟩ := hrel
        obtain ⟨pb, hPB⟩ := HY.out
        have HB2 := keepH hPB
        have cg := HGi.out wr hPB.chg
        clear hPB HY
        by_cases hlt : k < l.length
        · have q1 : (k : Int) < (l.length : Int) := by omega
          obtain ⟨q, hq⟩ : ∃ q, l[k]? = some q := ⟨l[k], List.getElem?_eq_getElem hlt⟩
          obtain ⟨⟨bk, off, rfl, hbk, c0, c1⟩, _⟩ := (HP.out.chg hB HB2.out.chg) k q hq
          have HQ := keepH hq
          clear hq hbk
          cases hn : q.none with
          | true =>
            rw [hn] at c0
            have HN := keepH hn
            clear hn
            go_wp2_with (at_builtin; refine wpList_append_own_at _ rfl _ _ 38 rfl W.heap.size 40 i0 .nilIface 1 16 Try.underlying38 hi0 hz0 hz1 hz2 rfl (by decide) _ _ _ rfl (HB2.out.r7.alloc _) ⟨_, 0, none⟩ 1 1 [.nilIface] rfl rfl (cells_new _ _ rfl _ _) (by intro u hu; simp at hu; subst hu; rfl) (by unfold maxLen; omega) (by omega) (Nat.le_trans HB2.out.chg.size (by simp)) ?_; intro v7 w7 r1 r2 r3 r4; have HB3 := keepH (HB2.out.skip HQ.out HN.out r1 r2); clear r1 r2 r3 r4)
            go_roundw
            case rel => exact ⟨k + 1, by omega, by first | rfl | go_num, pb, HB3.out⟩
            case measure => simp [intOf]; omega
          | false =>
            rw [hn] at c0
            have HN := keepH hn
            clear hn
            obtain ⟨w4, hw4⟩ : ∃ w4, w4 = wr.alloc (.cells #[.slice (lp k) q.L.length (lc k), .int .i64 0, .slice none 0 0] 58) := ⟨_, rfl⟩
            have HW4 := keepH hw4
            have HR4 : Hid (w4.ownsRow W.heap.size 40 1 u7 k (ifL l pb k) ∧ W.heap.size ≤ w4.heap.size) := by
              have hc : Chg (fun _ => False) wr w4 := by rw [hw4]; exact (Chg.refl _ _).alloc _
              exact ⟨(HB2.out.quiet hc).r7, Nat.le_trans HB2.out.chg.size hc.size⟩
            go_upto_region 14 with fail
            rw [← hw4]
            clear hw4 c0 c1 cg
            go_upto_region 15 with (at_builtin; refine wpList_append_own_at _ rfl _ _ 38 rfl W.heap.size 40 i0 .nilIface 1 16 Try.underlying38 hi0 hz0 hz1 hz2 rfl (by decide) _ _ _ rfl (HR4.out.1.alloc _) ⟨_, 0, none⟩ 1 1 [.iface 59 (.pointer (some ⟨wr.heap.size, 0, none⟩))] rfl rfl (cells_new _ _ rfl _ _) (by intro u hu; simp at hu; subst hu; rfl) (by unfold maxLen; omega) (by omega) (Nat.le_trans HR4.out.2 (by simp)) ?_; intro v7 w7 r1 r2 r3 r4; have HR1 := keepH r1; have HR2 := keepH r2; clear r1 r2 r3 r4)
            have hr8 : w7.ownsRow W.heap.size 59 1 u8 (ptL l pb k).length (ptL l pb k) := by
              have hc : Chg (fun _ => False) wr w4 := by rw [HW4.out]; exact (Chg.refl _ _).alloc _
              have h4 := HB2.out.quiet hc
              refine rowB_kept h4.r8 (fun z hz => ?_)
              obtain ⟨_, cur, hcz⟩ := row_typ h4.r8 hz
              exact (((Chg.refl (fun j => u7.ownBlock = some j) w4).alloc _).grown HR2.out (fun j e _ => e)).block z (lt_of hcz) (fun e => by obtain ⟨_, cur', hc'⟩ := row_typ h4.r7 e; exact typ_ne hcz hc' (by decide) rfl)
            have hpl := ptL_len l pb k
            have HR8 := keepH hr8
            have HSZ : Hid (W.heap.size ≤ w7.heap.size) := by have a1 := HR4.out.2; have a2 := HR2.out.size; rw [World.size_alloc] at a2; show _ ≤ _; omega
            clear hr8
            go_wp2_with (at_builtin; refine wpList_append_own_at _ rfl _ _ 55 rfl W.heap.size 59 j0 (.pointer none) 1 8 Try.underlying55 hj0 hy0 hy1 hy2 rfl (by decide) _ _ _ rfl (HR8.out.alloc _) ⟨_, 0, none⟩ 1 1 [.pointer (some ⟨wr.heap.size, 0, none⟩)] rfl rfl (cells_new _ _ rfl _ _) (by intro u hu; simp at hu; subst hu; rfl) (by unfold maxLen; omega) (by omega) (Nat.le_trans HSZ.out (by simp)) ?_; intro v8 w8 s1 s2 s3 s4; have HB3 := keepH (HB2.out.add HQ.out HN.out HW4.out HR1.out HR2.out s1 s2); clear s1 s2 s3 s4)
            go_roundw
            case rel => exact ⟨k + 1, by omega, by first | rfl | go_num, _, HB3.out⟩
            case measure => simp [intOf]; omega
        · have q1 : ¬ (k : Int) < (l.length : Int) := by omega
          obtain rfl : k = l.length := by omega
          clear hlt hkl
          obtain ⟨p7, c7, rfl⟩ := slice_row HB2.out.r7
          obtain ⟨p8, c8, rfl⟩ := slice_row HB2.out.r8
          go_upto_region 17 with (at_builtin; refine wpList_append_own_at _ rfl _ _ 31 rfl W.heap.size 38 k0 (.slice none 0 0) 1 24 Try.underlying31 hk0 hx0 hx1 hx2 rfl (by decide) _ _ _ rfl (World.ownsRow_nil _ _ _ _) ⟨_, 0, none⟩ 1 1 [.slice p7 l.length c7] rfl rfl (cells_new _ _ rfl _ _) (by intro u hu; simp at hu; subst hu; rfl) (by unfold maxLen; omega) (by omega) (Nat.le_trans HB2.out.chg.size (by simp)) ?_; intro v4 w4 r1 r2 r3 r4; have HR1 := keepH r1; have HR2 := keepH r2; clear r1 r2 r3 r4)
          have HB4 := keepH (HB2.out.quiet ((((Chg.refl (fun _ => False) wr).alloc _).grown HR2.out (fun j e _ => by have e2 : (Value.slice none 0 0).ownBlock = some j := e; simp [Value.ownBlock] at e2))))
          go_wp2_with (at_builtin; refine wpList_append_own_at _ rfl _ _ 32 rfl W.heap.size 55 m0 (.slice none 0 0) 1 24 Try.underlying32 hm0 hw0 hw1 hw2 rfl (by decide) _ _ _ rfl (World.ownsRow_nil _ _ _ _) ⟨_, 0, none⟩ 1 1 [.slice p8 (ptL l pb l.length).length c8] rfl rfl (cells_new _ _ rfl _ _) (by intro u hu; simp at hu; subst hu; rfl) (by unfold maxLen; omega) (by omega) (Nat.le_trans HB4.out.chg.size (by simp)) ?_; intro v5 w5 s1 s2 s3 s4; have HS1 := keepH s1; have HS2 := keepH s2; clear s1 s2 s3 s4)
          have C5 : Chg (fun _ => False) w4 w5 := ((Chg.refl (fun _ => False) w4).alloc _).grown HS2.out (fun j e _ => by have e2 : (Value.slice none 0 0).ownBlock = some j := e; simp [Value.ownBlock] at e2)
          have HB5 := keepH (HB4.out.quiet C5)
          have HPD : Hid (∃ g4 g5 c4 c5, v4 = .slice (some ⟨g4, 0, none⟩) 1 c4 ∧ v5 = .slice (some ⟨g5, 0, none⟩) 1 c5 ∧ ∃ v7 v8 pb, PD W w5 l lp lc pb g4 g5 v7 v8) := by
            rcases HR1.out.2 with ⟨_, h0⟩ | ⟨g4, c4, cur4, e4, hb4, hg4, _, _, _, ht4⟩
            · omega
            rcases HS1.out.2 with ⟨_, h0⟩ | ⟨g5, c5, cur5, e5, hb5, hg5, _, _, _, ht5⟩
            · omega
            refine ⟨g4, g5, c4, c5, e4, e5, _, _, pb, HB5.out, ⟨cur4, (C5.block g4 (lt_of hg4) (fun x => x)).trans hg4, ?_⟩, ⟨cur5, hg5, ?_⟩, hb4, hb5⟩
            · have q : (cur4.toList.take ((0 + 1) * 1))[0]? = some (.slice p7 l.length c7) := by rw [ht4]; rfl
              rw [List.getElem?_take_of_lt (by omega)] at q
              simpa using q
            · have q : (cur5.toList.take ((0 + 1) * 1))[0]? = some (.slice p8 (ptL l pb l.length).length c8) := by rw [ht5]; rfl
              rw [List.getElem?_take_of_lt (by omega)] at q
              simpa using q
          clear C5
          go_roundw
          case rel => exact ⟨i + 1, by first | rfl | go_num, .inr ⟨by have := HI.out; omega, HPD.out⟩⟩
          case measure => have := HI.out; simp [intOf]; omega
    · have z1 : ¬ (i : Int) < 1 := by omega
      have HD := keepH hD
      clear hD HX hi
      go_wp2_with fail
      go_ret2
      exact ⟨g4, g5, ⟨c4, c5, by simp⟩, HD.out⟩
end Go.Proofs.Ytkfmpebhibnniaa
