/- Whatever the list of pairs: of Leaves made of its first four hundred, one behind the other, a Look of each tells its key and value (shutterlaw10.NodeBack is true for every input). -/
import Derived.Test.YtlmfdgdmegkfdaaRows
import Derived.WalkKit
import Derived.ProofKit
import Derived.OpenShut
import Derived.JoinedCond
import Derived.Carry
import Derived.Lib.SmallJoins
import Derived.Test.YtlmfdgdmegkfdaaNdB
namespace Go.Proofs.Ytlmfdgdmegkfdaa.nodeBack
open Go.ChangeShapes Go.WideShapes Go.ChangeAt Go.RowKit Go.Joins Go.Shelf
set_option linter.unusedVariables false

theorem own : ownKnob Try.prog.godebug = none := by kernel_rfl
theorem laidOut : laidOutB Try.prog = true := by kernel_rfl

set_option maxRecDepth 100000 in
set_option maxHeartbeats 8000000 in
theorem walk (p : Option Addr) (c : Nat) (l : List (Nat × Nat)) (w : World) (hP : PairsAt w p l) :
    Calls Try.prog 6 #[.slice p l.length c] w fun e w' => e = .returned (.bool true) ∧ Below w.heap.size w w' := by
  obtain ⟨i0, hi, hz0, hz1, hz2⟩ := info_parts infoU2
  have HI := keepH hi
  have HPA := keepH hP
  clear hi hP
  go_enter Try.func6, Try.ntmps6
  go_wp2_with fail
  refine (nd_live w).mono ?_
  rintro e W1 ⟨rfl, C1⟩
  have HC1 := keepH C1
  clear C1
  go_wp2_with fail
  refine (m_new 1000 W1 (by omega)).mono ?_
  rintro e W2 ⟨rfl, M2, B2, C2, S2⟩
  have HM2 := keepH M2
  have S3 := keepH (St.new0 (th := 0) M2 B2 C2 S2)
  clear M2 B2 C2 S2
  go_wp2_with fail
  refine (m_view _ W1.heap.size 0 _ HM2.out).mono ?_
  rintro e w2 ⟨rfl, rfl⟩
  obtain ⟨w3, hw3⟩ : ∃ w3, w3 = W2.alloc (.cells #[.iface 92 (.pointer (some ⟨W1.heap.size, 0, none⟩)), .int .i64 0, .int .i64 0] 106) := ⟨_, rfl⟩
  rw [← hw3] at S3 ⊢
  clear hw3 HM2
  obtain ⟨v, hv⟩ : ∃ v, v = W2.heap.size := ⟨_, rfl⟩
  rw [← hv] at S3 ⊢
  clear hv
  obtain ⟨m, hm⟩ : ∃ m, m = W1.heap.size + 1 := ⟨_, rfl⟩
  rw [← hm] at S3 ⊢
  clear hm
  obtain ⟨b, hb⟩ : ∃ b, b = W1.heap.size := ⟨_, rfl⟩
  have HN0 : Hid (NB W1 w3 m b v l 0 0 (.slice none 0 0)) := by
    rw [← hb] at S3
    exact ⟨_, [], [], S3.out, fun i _ _ hi _ => by omega, rfl, World.ownsRow_nil _ _ _ _, fun g e => by simp [Value.ownBlock] at e⟩
  clear hb S3
  obtain ⟨n, hn⟩ : ∃ n, n = min l.length 400 := ⟨_, rfl⟩
  have HN := keepH hn
  clear hn
  go_wp2_with fail
  go_loopw [6, 7] (fun s6 s7 wr => ∃ k : Nat, k ≤ n ∧ s7 = .int .i64 (k : Int) ∧ Hid (NB W1 wr m b v l k k s6)) (fun _ s _ => n - (intOf s).toNat)
  case atStart => exact ⟨0, by omega, rfl, HN0⟩
  case round =>
    obtain ⟨k, hk, rfl, HNB⟩ := hrel
    by_cases hlt : k < n
    · have i1 : (k : Int) < (l.length : Int) := by have := HN.out; omega
      have i2 : (k : Int) < 400 := by have := HN.out; omega
      have i3 : k < 400 := by omega
      have i4 : k < l.length := by omega
      obtain ⟨kk, x, hkx⟩ : ∃ kk x, l[k]? = some (kk, x) := ⟨_, _, List.getElem?_eq_getElem i4⟩
      have HKX := keepH hkx
      rcases HPA.out with h0 | ⟨bk, off, hp, hbk, hc⟩
      · rw [h0] at hkx
        simp at hkx
      · subst hp
        obtain ⟨bk1, bk2, d0, d1⟩ := hc k kk x hkx
        have HCH := keepH (HC1.out.trans HNB.out.chg (H := fun _ => False) (fun _ _ x => x) (fun _ _ x => x))
        have c0 : wr.cell? ⟨bk, off + k * 2, none⟩ = some (.int .u64 (kk : Int)) := cell_chg HCH.out d0 (fun x => x)
        have c1 : wr.cell? ⟨bk, off + k * 2 + 1, none⟩ = some (.int .u64 (x : Int)) := cell_chg HCH.out d1 (fun x => x)
        clear d0 d1 hkx hc
        go_upto_region 9 with fail
        go_cut [8] from 33 to 43 (fun s8 wz => s8 = .pointer (some ⟨wr.heap.size, 0, none⟩) ∧ Hid (IsLeaf wz wr.heap.size false 0 kk x 0 ∧ Chg (fun _ => False) wr wz))
        case first =>
          go_region_with (go_at_call 26; refine (leaf_new kk x wr.drew).mono ?_; rintro e w1 ⟨rfl, rfl⟩)
          all_goals (try go_wp2_with fail)
          all_goals go_meet
          all_goals (exact ⟨by first | rfl | trivial, keepH ⟨heap_alloc_new _ _, (Chg.refl _ wr).drew.alloc _⟩⟩)
        case rest =>
          obtain ⟨wz, hwz⟩ : ∃ wz, wz = wc := ⟨_, rfl⟩
          rw [← hwz] at hcut ⊢
          clear hwz
          obtain ⟨rfl, HC⟩ := hcut
          obtain ⟨L1, CC⟩ := HC.out
          have HL1 := keepH L1
          obtain ⟨F, cs, tr, S, CO, TL, R, AP⟩ := HNB.out
          have HS1 := keepH (S.chg' CC)
          have HR1 : Hid (wz.ownsRow 0 38 1 u6 k ((wsN k).map u64V)) := row_kept R fun g e => CC.block g (row_lt R g e) (fun x => x)
          have HRL : Hid (∀ g, u6.ownBlock = some g → g < wr.heap.size) := fun g e => row_lt R g e
          have HFp : Hid (¬ F wr.heap.size) := S.ltF
          have HZ : Hid (W1.heap.size ≤ wr.heap.size ∧ m < wr.heap.size ∧ v < wr.heap.size) := ⟨S.chg.size, S.mem.lt, S.view.lt⟩
          have HCO := keepH CO
          have HTL := keepH TL
          have HAP := keepH AP
          clear L1 CC S CO TL R AP HC HNB c0 c1 HCH
          obtain ⟨p, hp⟩ : ∃ p, p = wr.heap.size := ⟨_, rfl⟩
          rw [← hp] at HL1 HFp HZ HRL ⊢
          clear hp
          obtain ⟨nx, hnx⟩ : ∃ nx, nx = 1 + 2 * k := ⟨_, rfl⟩
          have ea : alAt 1000 nx 2 = nx := by unfold alAt; rw [if_pos (by unfold alOk; omega)]
          have HEN : Hid (alNext 1000 nx 2 = 1 + 2 * (k + 1)) := by show alNext 1000 nx 2 = _; unfold alNext; rw [if_pos (by unfold alOk; omega)]; omega
          rw [← hnx] at HS1
          have HNX := keepH hnx
          have nx0 : ¬ nx = 0 := by omega
          have nx1 : 1 ≤ nx := by omega
          have HEA := keepH ea
          clear hnx ea
          go_wp2_with fail
          refine (leaf_step p v b 1000 nx k kk x 0 F cs tr _ HL1.out HS1.out.view HS1.out.bank HS1.out.nv HFp.out (by have := HZ.out; omega) (by omega) (by have := HTL.out; omega) bk1 bk2 nx HEA.out (by omega) nx1).mono ?_
          rintro e w4 ⟨rfl, L4, F4, vs4, B4, V4, G4⟩
          rw [if_neg nx0, if_neg nx0] at L4
          obtain ⟨wd, hwd⟩ : ∃ wd, wd = 2 * nx + 1 := ⟨_, rfl⟩
          rw [← hwd] at L4
          have HWD := keepH hwd
          have HL4 := keepH L4
          have HS4 := keepH (HS1.out.stepP G4 (by have := HZ.out; omega) (by have := HZ.out; omega) B4 V4)
          have HR4 : Hid (w4.ownsRow 0 38 1 u6 k ((wsN k).map u64V)) := row_kept HR1.out fun g e => G4.chg.block g (row_lt HR1.out g e) (fun y => y.elim (fun y => y.elim (HAP.out g e).1 (HAP.out g e).2.1) (fun y => by have := HRL.out g e; omega))
          have HAP4 : Hid (∀ g, u6.ownBlock = some g → ¬ F4 g ∧ g ≠ v ∧ g ≠ m ∧ W1.heap.size ≤ g) := fun g e => ⟨fun y => (G4.new g y).elim (HAP.out g e).1 (fun y => by have := row_lt HR1.out g e; omega), (HAP.out g e).2⟩
          clear L4 B4 V4 G4 hwd HL1 HS1 HR1 HAP HFp
          go_wp2_with fail
          refine (leaf_errno _ _ _ _ _ _ _ HL4.out).mono ?_
          rintro e w5 ⟨rfl, rfl⟩
          go_wp2_with fail
          refine (leaf_word _ _ _ _ _ _ _ HL4.out).mono ?_
          rintro e w5 ⟨rfl, rfl⟩
          have hi := HI.out
          go_wp2_with (first | (at_builtin; refine wpList_append_own_at _ rfl (.tmp 53) (.tmp 56) 64 rfl 0 38 i0 (.int .u64 0) 1 8 Try.underlying64 hi hz0 hz1 hz2 rfl (by decide) u6 k ((wsN k).map u64V) rfl (HR4.out.alloc _) ⟨w5.heap.size, 0, none⟩ 1 1 [.int .u64 (wd : Int)] rfl rfl (cells_new _ _ rfl _ _) (by intro u hu; simp at hu; subst hu; rfl) (by unfold maxLen; omega) (by omega) (Nat.zero_le _) ?_; intro v2 w6 r1 r2 r3 r4; have R1 := keepH r1; have R2 := keepH r2; have R4 := keepH r4; clear r1 r2 r3 r4) | go_in)
          go_roundw
          case rel =>
            refine ⟨k + 1, by omega, by first | rfl | go_num, NB.more (o := .cells #[.int .u64 (wd : Int)] 38) (by rw [← HEN.out]; exact HS4.out) (by rw [HNX.out]; exact HCO.out.more HKX.out i3) (by rw [List.length_append, HTL.out]; rfl) HAP4.out R1.out (by rw [HWD.out, HNX.out]) R2.out R4.out⟩
          case measure => simp [intOf]; omega
    · obtain rfl : k = n := by omega
      obtain ⟨F0, cs0, tr0, S0, CO0, TL0, R0, AP0⟩ := HNB.out
      obtain ⟨p6, c6, rfl⟩ := slice_of R0
      clear S0 CO0 TL0 R0 AP0 F0 cs0 tr0
      go_upto_region 7 with fail
      go_cut [30] from 23 to 30 (fun s30 wz => s30 = .bool false ∧ wz = wr)
      case first =>
        by_cases h4 : k < l.length
        · have i1 : (k : Int) < (l.length : Int) := by omega
          have i2 : ¬ (k : Int) < 400 := by have := HN.out; omega
          go_wp2_with fail
          go_meet
          exact ⟨by first | rfl | trivial | simp [i2], by first | rfl | trivial⟩
        · have i1 : ¬ (k : Int) < (l.length : Int) := by omega
          go_wp2_with fail
          go_meet
          exact ⟨by first | rfl | trivial | simp [i1], by first | rfl | trivial⟩
      case rest =>
      obtain ⟨rfl, rfl⟩ := hcut
      go_wp2_with fail
      go_loopw [9] (fun s9 wx => ∃ i : Nat, i ≤ k ∧ s9 = .int .i64 (i : Int) ∧ Hid (NB W1 wx m b v l k (k + 2 * i) (.slice p6 k c6))) (fun s _ => k - (intOf s).toNat)
      case atStart => exact ⟨0, by omega, rfl, HNB⟩
      case round =>
        obtain ⟨i, hi2, rfl, HNI⟩ := hrel
        by_cases hik : i < k
        · have i1 : (i : Int) < (k : Int) := by omega
          have i4 : i < l.length := by have := HN.out; omega
          obtain ⟨kk, x, hkx⟩ : ∃ kk x, l[i]? = some (kk, x) := ⟨_, _, List.getElem?_eq_getElem i4⟩
          have HKX := keepH hkx
          rcases HPA.out with h0 | ⟨bk, off, hp, hbk, hc⟩
          · rw [h0] at hkx
            simp at hkx
          · subst hp
            obtain ⟨bk1, bk2, d0, d1⟩ := hc i kk x hkx
            have HD0 := keepH d0
            have HD1 := keepH d1
            clear d0 d1 hkx hc
            obtain ⟨F, cs, tr, S, CO, TL, R, AP⟩ := HNI.out
            obtain ⟨g, c6', e6⟩ := slice_pos R (by omega)
            simp only [Value.slice.injEq] at e6
            obtain ⟨rfl, _, rfl⟩ := e6
            obtain ⟨wd, hwd⟩ : ∃ wd, wd = cellN (wsN k) i := ⟨_, rfl⟩
            have c68 : wr.cell? ⟨g, i, none⟩ = some (.int .u64 (wd : Int)) := by rw [hwd]; exact cell_u64 R i hik
            rw [wsN_cell k i hik] at hwd
            obtain ⟨a, ha⟩ : ∃ a, a = 1 + 2 * i := ⟨_, rfl⟩
            have HWD : Hid (wd = 2 * a + 1) := by show wd = _; omega
            obtain ⟨ek, ex⟩ := CO i kk x hik HKX.out
            have HEK : Hid (cellN cs a = kk) := by show cellN cs a = kk; rw [ha]; exact ek
            have HEX : Hid (cellN cs (a + 1) = x) := by show cellN cs (a + 1) = x; rw [ha]; exact ex
            have HAA : Hid (a < 1000) := by show a < 1000; have := HN.out; omega
            have ha1 : a < 18446744073709551616 := by have := HAA.out; omega
            have HS := keepH S
            have HR := keepH R
            have HCO := keepH CO
            have HTL := keepH TL
            have HAP := keepH AP
            have HBD : Hid (k ≤ 400) := by show k ≤ 400; have := HN.out; omega
            clear S R CO TL AP HNI hwd ha ek ex
            go_wp2_with fail
            refine (split_leaf a wd _ HWD.out ha1).mono ?_
            rintro e y1 ⟨rfl, rfl⟩
            go_wp2_with fail
            refine (look_new a _).mono ?_
            rintro e y2 ⟨rfl, rfl⟩
            obtain ⟨y3, hy3⟩ : ∃ y3, y3 = y1.alloc (.cells #[.int .u64 (a : Int), .int .i64 0, .int .u64 0, .int .u64 0] 104) := ⟨_, rfl⟩
            have CC : Chg (fun _ => False) y1 y3 := by rw [hy3]; exact (Chg.refl _ _).alloc _
            have HK3 : Hid (IsLook y3 y1.heap.size a 0 0 0) := by rw [hy3]; exact heap_alloc_new _ _
            have HS3 := keepH (HS.out.chg' CC)
            have HR3 : Hid (y3.ownsRow 0 38 1 (.slice (some ⟨g, 0, none⟩) k c6) k ((wsN k).map u64V)) := row_kept HR.out fun g e => CC.block g (row_lt HR.out g e) (fun x => x)
            have HGL : Hid (g < y1.heap.size) := row_lt HR.out g rfl
            have HFq : Hid (¬ F y1.heap.size) := HS.out.ltF
            have HZ : Hid (W1.heap.size ≤ y1.heap.size ∧ m < y1.heap.size ∧ v < y1.heap.size) := ⟨HS.out.chg.size, HS.out.mem.lt, HS.out.view.lt⟩
            rw [← hy3]
            clear hy3 CC HS HR c68
            obtain ⟨q, hq⟩ : ∃ q, q = y1.heap.size := ⟨_, rfl⟩
            rw [← hq] at HK3 HFq HZ HGL ⊢
            clear hq
            go_wp2_with fail
            refine (look_key q v b 1000 (1 + 2 * k) (k + 2 * i) a 0 0 0 F cs tr _ HK3.out HS3.out.view HS3.out.bank HS3.out.nv HFq.out (by have := HZ.out; omega) (by have := HBD.out; omega) (by have := HTL.out; have := HBD.out; omega) ha1).mono ?_
            rintro e y4 ⟨rfl, K4, F4, vs4, B4, V4, G4⟩
            rw [HEK.out] at K4 B4
            have HK4 := keepH K4
            have HS4 := keepH (HS3.out.stepP G4 (by have := HZ.out; omega) (by have := HZ.out; omega) B4 V4)
            have HG1 : Hid (¬ F g ∧ g ≠ v ∧ g ≠ m ∧ W1.heap.size ≤ g) := HAP.out g rfl
            have HR4 : Hid (y4.ownsRow 0 38 1 (.slice (some ⟨g, 0, none⟩) k c6) k ((wsN k).map u64V)) := row_kept HR3.out fun g' e => G4.chg.block g' (row_lt HR3.out g' e) (fun y => by
              simp [Value.ownBlock] at e
              subst e
              exact y.elim (fun y => y.elim HG1.out.1 HG1.out.2.1) (fun y => by have := HGL.out; omega))
            have HF4g : Hid (¬ F4 g) := fun y => (G4.new g y).elim HG1.out.1 (fun y => by have := row_lt HR3.out g rfl; omega)
            have HF4q : Hid (¬ F4 q) := fun y => (G4.new q y).elim HFq.out (fun y => by have := lt_of HK3.out; omega)
            clear K4 B4 V4 G4 HK3 HS3 HR3 HFq HAP
            go_wp2_with fail
            refine (look_value q v b 1000 (1 + 2 * k) (k + 2 * i + 1) a kk 0 0 F4 cs _ _ HK4.out HS4.out.view HS4.out.bank HS4.out.nv HF4q.out (by have := HZ.out; omega) (by have := HBD.out; omega) (by rw [List.length_append, HTL.out, List.length_singleton]; have := HBD.out; omega) ha1 (a + 1) (by have := HAA.out; omega)).mono ?_
            rintro e y5 ⟨rfl, K5, F5, vs5, B5, V5, G5⟩
            rw [HEX.out] at K5 B5
            have HK5 := keepH K5
            have HS5 := keepH (HS4.out.stepP G5 (by have := HZ.out; omega) (by have := HZ.out; omega) B5 V5)
            have HR5 : Hid (y5.ownsRow 0 38 1 (.slice (some ⟨g, 0, none⟩) k c6) k ((wsN k).map u64V)) := row_kept HR4.out fun g' e => G5.chg.block g' (row_lt HR4.out g' e) (fun y => by
              simp [Value.ownBlock] at e
              subst e
              exact y.elim (fun y => y.elim HF4g.out HG1.out.2.1) (fun y => by have := HGL.out; omega))
            have HF5g : Hid (¬ F5 g) := fun y => (G5.new g y).elim HF4g.out (fun y => by have := row_lt HR4.out g rfl; omega)
            have HNB5 : Hid (NB W1 y5 m b v l k (k + 2 * (i + 1)) (.slice (some ⟨g, 0, none⟩) k c6)) := ⟨F5, cs, _, HS5.out, HCO.out, by rw [List.length_append, List.length_append, HTL.out]; rfl, HR5.out, fun g' e => by
              simp [Value.ownBlock] at e
              subst e
              exact ⟨HF5g.out, HG1.out.2⟩⟩
            clear K5 B5 V5 G5 HK4 HS4 HR4 HF4q HF4g HS5 HR5 HF5g
            have HCH := keepH (HC1.out.trans HNB5.out.chg (H := fun _ => False) (fun _ _ x => x) (fun _ _ x => x))
            have c0 : y5.cell? ⟨bk, off + i * 2, none⟩ = some (.int .u64 (kk : Int)) := cell_chg HCH.out HD0.out (fun x => x)
            have c1 : y5.cell? ⟨bk, off + i * 2 + 1, none⟩ = some (.int .u64 (x : Int)) := cell_chg HCH.out HD1.out (fun x => x)
            go_upto_region 20 with fail
            go_cut [97] from 80 to 97 (fun s97 wz => s97 = .bool false ∧ Hid (Chg (fun _ => False) y5 wz))
            case first =>
              refine wp_region_any (by kernel_rfl) ?_
              change wpAny _ _ _ _ _ _ _ (World.drew _)
              refine wpAny_take (i := 0) (v := ?_) rfl (by kernel_rfl) (by kernel_rfl) (by kernel_rfl) (fun _ _ _ h => h) (Or.inl ⟨by kernel_rfl, ?_⟩) ?_
              rotate_left
              · intro w
                go_simp
                try with_reducible rfl
              refine wpAny_take (i := 1) (v := .bool false) rfl (by kernel_rfl) (by kernel_rfl) (by kernel_rfl) (fun _ _ _ h => h) (Or.inl ⟨by kernel_rfl, ?_⟩) ?_
              · intro w
                go_simp
                all_goals (first | assumption | omega | (simp; omega))
              refine wpAny_take (i := 2) (v := ?_) rfl (by kernel_rfl) (by kernel_rfl) (by kernel_rfl) (fun _ _ _ h => h) (Or.inl ⟨by kernel_rfl, ?_⟩) ?_
              rotate_left
              · intro w
                go_simp
                try with_reducible rfl
              refine wpAny_take (i := 3) (v := ?_) rfl (by kernel_rfl) (by kernel_rfl) (by kernel_rfl) (fun _ _ _ h => h) (Or.inl ⟨by kernel_rfl, ?_⟩) ?_
              rotate_left
              · intro w
                go_simp
                try with_reducible rfl
              refine wpAny_take (i := 4) (v := ?_) rfl (by kernel_rfl) (by kernel_rfl) (by kernel_rfl) (fun _ _ _ h => h) (Or.inl ⟨by kernel_rfl, ?_⟩) ?_
              rotate_left
              · intro w
                go_simp
                try with_reducible rfl
              refine wpAny_take (i := 5) (v := ?_) rfl (by kernel_rfl) (by kernel_rfl) (by kernel_rfl) (fun _ _ _ h => h) (Or.inl ⟨by kernel_rfl, ?_⟩) ?_
              rotate_left
              · intro w
                go_simp
                try with_reducible rfl
              refine wpAny_take (i := 6) (v := ?_) rfl (by kernel_rfl) (by kernel_rfl) (by kernel_rfl) (fun _ _ _ h => h) (Or.inl ⟨by kernel_rfl, ?_⟩) ?_
              rotate_left
              · intro w
                go_simp
                try with_reducible rfl
              refine wpAny_take (i := 7) (v := ?_) rfl (by kernel_rfl) (by kernel_rfl) (by kernel_rfl) (fun _ _ _ h => h) (Or.inl ⟨by kernel_rfl, ?_⟩) ?_
              rotate_left
              · intro w
                go_simp
                try with_reducible rfl
              refine wpAny_take (i := 8) (v := ?_) rfl (by kernel_rfl) (by kernel_rfl) (by kernel_rfl) (fun _ _ _ h => h) (Or.inl ⟨by kernel_rfl, ?_⟩) ?_
              rotate_left
              · intro w
                go_simp
                try with_reducible rfl
              refine wpAny_take (i := 9) (v := ?_) rfl (by kernel_rfl) (by kernel_rfl) (by kernel_rfl) (fun _ _ _ h => h) (Or.inl ⟨by kernel_rfl, ?_⟩) ?_
              rotate_left
              · intro w
                go_simp
                try with_reducible rfl
              refine wpAny_take (i := 10) (v := ?_) rfl (by kernel_rfl) (by kernel_rfl) (by kernel_rfl) (fun _ _ _ h => h) (Or.inl ⟨by kernel_rfl, ?_⟩) ?_
              rotate_left
              · intro w
                go_simp
                try with_reducible rfl
              refine wpAny_take (i := 12) (v := ?_) rfl (by kernel_rfl) (by kernel_rfl) (by kernel_rfl) (fun _ _ _ h => h) (Or.inl ⟨by kernel_rfl, ?_⟩) ?_
              rotate_left
              · intro w
                go_simp
                try with_reducible rfl
              refine wpAny_take (i := 13) (v := ?_) rfl (by kernel_rfl) (by kernel_rfl) (by kernel_rfl) (fun _ _ _ h => h) (Or.inl ⟨by kernel_rfl, ?_⟩) ?_
              rotate_left
              · intro w
                go_simp
                try with_reducible rfl
              refine wpAny_take (i := 14) (v := .pointer (some ⟨bk, off + i * 2, none⟩)) rfl (by kernel_rfl) (by kernel_rfl) (by kernel_rfl) (fun _ _ _ h => h) (Or.inl ⟨by kernel_rfl, ?_⟩) ?_
              · intro w
                go_simp
                all_goals (first | assumption | omega | (simp; omega))
              refine wpAny_ready (rs := [11, 15]) (by kernel_rfl) (by simp) ?_
              refine AllReady.cons rfl (fun K hK => ?_) ?_
              · go_simp
                go_wp2_with (first | (go_at_call 15; refine (look_pair q a 2 kk x y5.drew HK5.out).mono ?_; rintro e z1 ⟨rfl, CZ⟩; have c0' : z1.cell? ⟨bk, off + i * 2, none⟩ = some (.int .u64 (kk : Int)) := cell_chg CZ c0 (fun x => x); have c1' : z1.cell? ⟨bk, off + i * 2 + 1, none⟩ = some (.int .u64 (x : Int)) := cell_chg CZ c1 (fun x => x); have HCZ := keepH CZ; clear CZ; refine hK _ _ ?_; clear hK K))
                refine wpAny_ready (rs := [15]) (by kernel_rfl) (by simp) ?_
                refine AllReady.cons rfl (fun K hK => ?_) AllReady.nil
                go_simp
                refine hK _ _ ?_
                clear hK K
                refine wpAny_take (i := 16) (v := ?_) rfl (by kernel_rfl) (by kernel_rfl) (by kernel_rfl) (fun _ _ _ h => h) (Or.inl ⟨by kernel_rfl, ?_⟩) ?_
                rotate_left
                · intro w
                  go_simp
                  try with_reducible rfl
                refine wpAny_take (i := 17) (v := ?_) rfl (by kernel_rfl) (by kernel_rfl) (by kernel_rfl) (fun _ _ _ h => h) (Or.inl ⟨by kernel_rfl, ?_⟩) ?_
                rotate_left
                · intro w
                  go_simp
                  try with_reducible rfl
                refine wpAny_done (by kernel_rfl) ?_ _
                go_simp
                go_wp2_with fail
                go_meet
                exact ⟨by first | rfl | trivial | simp, keepH ((drewC0 y5).trans HCZ.out (fun _ _ x => x) (fun _ _ x => x))⟩
              refine AllReady.cons rfl (fun K hK => ?_) AllReady.nil
              · go_simp
                refine hK _ _ ?_
                clear hK K
                refine wpAny_ready (rs := [11]) (by kernel_rfl) (by simp) ?_
                refine AllReady.cons rfl (fun K hK => ?_) AllReady.nil
                go_simp
                go_wp2_with (first | (go_at_call 15; refine (look_pair q a 2 kk x y5.drew HK5.out).mono ?_; rintro e z1 ⟨rfl, CZ⟩; have c0' : z1.cell? ⟨bk, off + i * 2, none⟩ = some (.int .u64 (kk : Int)) := cell_chg CZ c0 (fun x => x); have c1' : z1.cell? ⟨bk, off + i * 2 + 1, none⟩ = some (.int .u64 (x : Int)) := cell_chg CZ c1 (fun x => x); have HCZ := keepH CZ; clear CZ; refine hK _ _ ?_; clear hK K))
                refine wpAny_take (i := 16) (v := ?_) rfl (by kernel_rfl) (by kernel_rfl) (by kernel_rfl) (fun _ _ _ h => h) (Or.inl ⟨by kernel_rfl, ?_⟩) ?_
                rotate_left
                · intro w
                  go_simp
                  try with_reducible rfl
                refine wpAny_take (i := 17) (v := ?_) rfl (by kernel_rfl) (by kernel_rfl) (by kernel_rfl) (fun _ _ _ h => h) (Or.inl ⟨by kernel_rfl, ?_⟩) ?_
                rotate_left
                · intro w
                  go_simp
                  try with_reducible rfl
                refine wpAny_done (by kernel_rfl) ?_ _
                go_simp
                go_wp2_with fail
                go_meet
                exact ⟨by first | rfl | trivial | simp, keepH ((drewC0 y5).trans HCZ.out (fun _ _ x => x) (fun _ _ x => x))⟩
            case rest =>
              obtain ⟨wz, hwz⟩ : ∃ wz, wz = wc := ⟨_, rfl⟩
              rw [← hwz] at hcut ⊢
              clear hwz
              obtain ⟨rfl, HC⟩ := hcut
              have hbd := HBD.out
              have hbi : (i : Int) + 1 ≤ 400 := by omega
              go_wp2_with fail
              go_roundw
              case rel =>
                exact ⟨i + 1, by omega, by first | rfl | go_num, HNB5.out.quiet HC.out⟩
              case measure => simp [intOf]; omega
        · obtain rfl : i = k := by omega
          go_wp2_with fail
          go_ret
          exact ⟨by simp, ((HC1.out.trans HNI.out.chg (H := fun k => w.heap.size ≤ k) (fun _ _ x => x.elim) (fun _ _ x => x.elim))).below (Nat.le_refl _)⟩

set_option maxRecDepth 100000 in
theorem lifted (os : Os) (started : os.Started) (H : Type) (enc : TypeId × Value → H) :
    ReturnsInHanded {} Try.checked os 6 .any (Rows.nodeBackSpec.pre6 enc Try.prog Try.f6 Rows.nodeBackRow.domain false) (Rows.nodeBackSpec.post enc Try.prog Try.f6 false true false false) := by
  refine returnsInHanded_of_change_sized (C := Try.checked) own started (by kernel_rfl) Try.func6
    (ChangeSpec.witness6 (enc := enc) (C := Try.checked) false ⟨#[], #[.slice none 0 0], []⟩ 8 (by kernel_rfl) (by kernel_rfl) (by kernel_rfl) (by kernel_rfl)) ?_
  intro W base args ds gs before hval0 hW hcnd hsz0 _
  have hval : ∀ (j : Nat) t v, Try.f6.params[j]? = some t → args[j]? = some v → Value.okWide Try.prog W .any base t v := hval0
  have hsz : (DataW.weightsEach Try.prog (Try.f6.params.toList ++ Rows.nodeBackSpec.plain.varTypes Try.prog) (ds ++ gs)).all (· ≤ reachBytes) = true := hsz0
  clear hsz0
  have hW' := hW
  obtain ⟨p, q, hA0, hV, rfl, hfz, hnd⟩ := hW
  have hA : DataW.TrodAll enc Try.prog W 0 (fun _ => true) true Try.f6.params.toList args.toList ds p := hA0
  rw [Try.params6] at hA hval hsz
  obtain ⟨v0, vs0, d0, ds0, p0, q0, hargs, rfl, rfl, h0, r0⟩ := trodAll_cons hA
  obtain ⟨rfl, rfl, rfl⟩ := trodAll_nil r0
  obtain rfl : args = #[v0] := by cases args; simp_all
  obtain ⟨rfl, rfl⟩ := trodVars_none hV
  have k0 := h0
  have lt0 : ∀ x ∈ p0, x.block < W.heap.size := by obtain ⟨m, hm⟩ := k0; exact DataW.trod_lt m _ _ _ hm
  obtain ⟨p, n, c, rfl⟩ := okWide_slice Try.underlying84 (hval 0 84 v0 rfl rfl)
  obtain ⟨l, hl, hP⟩ := pairs_open h0
  subst hl
  clear hA0 hval0
  refine (walk p c l W hP).mono fun e W' ⟨he, bel⟩ => ?_
  subst he
  exact ⟨_, rfl, _, _, _, [], _, [], hW', trodAll_mk1 (shut_bool Try.underlying4 _), (trodAll_cons_mk (Below.trod laidOut (by kernel_rfl) (of_decide_eq_true (by kernel_rfl)) k0 bel lt0) trodAll_mk0), rfl, bel.frame _, fun h => by cases h⟩

theorem over : Rows.nodeBackRow.holds Try.pinned (OpenSpec.ofChange Rows.nodeBackSpec) :=
  OpenClaim.holds_of_wide 6 Try.f6 rfl rfl rfl rfl rfl rfl rfl ⟨rfl, rfl, rfl, rfl, rfl⟩ rfl rfl rfl rfl rfl (by kernel_rfl) Try.func6 (by kernel_rfl)
    (of_decide_eq_true (by kernel_rfl)) (by unfold Func.isWrapper; first | (rw [if_pos (by decide +kernel)]; kernel_rfl) | (rw [if_neg (by decide +kernel)]; exact ⟨rfl, rfl⟩))
    (fun os started H enc _ => lifted os started H enc)
end Go.Proofs.Ytlmfdgdmegkfdaa.nodeBack
namespace Go.Proofs.Ytlmfdgdmegkfdaa
theorem nodeBack_holds : Rows.NodeBackSaid := nodeBack.over
end Go.Proofs.Ytlmfdgdmegkfdaa
