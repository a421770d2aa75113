/- Both, walked: threads that are not too long. -/
import Derived.Test.YtnhiodmigmmfgaaQ10YB
import Derived.Test.YtnhiodmigmmfgaaQ9Yw
import Derived.BigQuiet
import Derived.Test.YtnhiodmigmmfgaaQ8Yk
namespace Go.Proofs.Ytnhiodmigmmfgaa
open Go.RowKit Go.Shelf
set_option linter.unusedVariables false

def c0Of (ll : List (List PlP)) (lp : Nat → Nat → Option Addr) (lc : Nat → Nat → Nat) : Cfg PS := ⟨1, stN 200 [] 50 3, [⟨9, 2, 50, 3, 0, .slice none 0 0, [], 0, false⟩], fun _ => 0, s0Of ll lp lc, 0, fun _ => false, [], []⟩
/-- The procs that the law keeps, row by row. -/
def MineAt (Y : World) (ll : List (List PlP)) (sv : Value) (qv : Nat → Value) (pb : Nat → Nat → Nat) : Prop := Y.ownsRow 0 46 1 sv ll.length ((List.range ll.length).map qv) ∧ ∀ i, i < ll.length → Y.ownsRow 0 50 1 (qv i) (ptL (lOf ll i) (pb i) (lOf ll i).length).length (ptL (lOf ll i) (pb i) (lOf ll i).length)
set_option maxRecDepth 100000 in
set_option maxHeartbeats 16000000 in
theorem both_all {W V : World} {p : Option Addr} {c8 : Nat} {ll : List (List PlP)} {ap : Nat → Option Addr} {ac : Nat → Nat} {lp : Nat → Nat → Option Addr} {lc : Nat → Nat → Nat} (hW : Chg (fun _ => False) W V) (hP : ThsAt W W.heap.size p ll ap ac lp lc) (hll : ll.length ≤ 1048576) (hls : ∀ l ∈ ll, l.length ≤ 1048576) (hL : ∀ l ∈ ll, ∀ q ∈ l, q.L.length ≤ 1048576) (hb : tooL ll = false) :
    Calls Try.prog 5 #[.slice p ll.length c8] V fun e Y => ∃ wb q, e = .returned (.tuple #[.pointer (some ⟨wb, 0, none⟩), .pointer (some ⟨q, 0, none⟩), .bool true]) ∧ ∃ m r b nm sv qv vb pb K, Y.heap[wb]? = some (.cells #[.pointer (some ⟨m, 0, none⟩), .pointer (some ⟨r, 0, none⟩), sv] 42 (0, 0)) ∧ V.heap.size ≤ wb ∧ GR (plK W.heap.size W) 200 m b ll.length (clOf ll) vb (pvOf ll pb) (c0Of ll lp lc) V Y Y (fun k => mineS ll.length sv qv k ∨ K k ∨ k = wb) r ∧ D4x Y W.heap.size q nm ll.length p c8 ⟨0, fun _ => 0, fun _ => 0, [], [-1], fun _ => [], ⟨1, stN 200 [] 50 3⟩, [⟨9, 2, 50, 3, 0, .slice none 0 0, [], 0, false⟩]⟩ K ∧ (∀ k, K k → V.heap.size ≤ k ∧ k < wb) ∧ MineAt Y ll sv qv pb ∧ ∀ k, mineS ll.length sv qv k → V.heap.size ≤ k ∧ k < wb ∧ ¬ K k := by
  have HW := keepH hW
  have HP := keepH hP
  have HLS := keepH hls
  have HL := keepH hL
  have HB := keepH hb
  clear hW hP hls hL hb
  go_enter Try.func5, Try.ntmps5
  go_wp2_with fail
  refine (m_new 200 V (by omega)).mono ?_
  rintro e w1 ⟨rfl, m1, b1, c1, z1⟩
  obtain ⟨b, eb⟩ : ∃ b, V.heap.size = b := ⟨_, rfl⟩
  rw [eb] at m1 b1 z1 ⊢
  have HM1 := keepH m1
  have HB1 := keepH b1
  have HC1 := keepH c1
  have HEB := keepH eb
  clear m1 b1 c1 eb
  go_wp2_with fail
  refine (r_new 200 w1 (by omega)).mono ?_
  rintro e w2 ⟨rfl, m2, c2, z2⟩
  rw [z1] at m2 z2 ⊢
  have HM2 : Hid (RMem w2 (fun k => k = b + 2 ∨ k = b + 3) (b + 3) 200 1 [] []) := m2
  have HC2 := keepH c2
  have HZ1 := keepH z1
  have HZ2 : Hid (w2.heap.size = b + 4) := z2
  clear m2 c2 z1 z2
  simp only [show b + 2 + 1 = b + 3 from rfl]
  have HMM : Hid (IsMem w2 (b + 1) b) := (HC2.out.block _ (by have := HZ1.out; omega) (fun x => x)).trans HM1.out
  have HBB : Hid (Bank w2 (fun k => k = b) b 200 1 [] []) := HB1.out.chg HC2.out (fun _ _ x => x)
  go_wp2_with fail
  refine (m_view (b + 1) b 9 _ HMM.out).mono ?_
  rintro e w3 ⟨rfl, hw3⟩
  rw [HZ2.out]
  have HV3 : Hid (IsView w3 (b + 4) b 9 0) := by rw [hw3, ← HZ2.out]; exact heap_alloc_new _ _
  have HB3 : Hid (Bank w3 (fun k => k = b) b 200 1 [] []) := by rw [hw3]; exact HBB.out.chg ((Chg.refl (fun _ => False) w2).alloc _) (fun _ _ x => x)
  have HW3 := keepH hw3
  clear hw3
  go_wp2_with fail
  refine (v_store (b + 4) b 200 1 0 9 50 3 (fun k => k = b) [] [] w3 HV3.out HB3.out (by omega) (by omega) (by simp) (by omega) (by omega)).mono ?_
  rintro e w4 ⟨rfl, F, vs, b4, v4, g4⟩
  have HB4 := keepH b4
  have HG4 := keepH g4
  have HR4 : Hid (RMem w4 (fun k => k = b + 2 ∨ k = b + 3) (b + 3) 200 1 [] []) := (HM2.out.chg (G := fun _ => False) (by rw [HW3.out]; exact (Chg.refl _ _).alloc _) (fun _ _ x => x)).chg g4.chg (fun k e q => by rcases e with e | e <;> rcases q with q | q <;> omega)
  clear b4 v4 g4
  go_wp2_with fail
  refine (r_store (b + 3) 200 1 50 3 9 _ [] [] w4 HR4.out (by simp) (by omega) (by omega)).mono ?_
  rintro e w5 ⟨rfl, R, r5, g5⟩
  have HMid : Hid (Mid9 V w5 F R b) := mid9 (o := .cells #[.iface 85 (.pointer (some ⟨b, 0, none⟩)), .int .i64 9, .int .i64 0] 109) HEB.out HM1.out HC1.out HZ1.out HC2.out HZ2.out rfl HB4.out (by rw [← HW3.out]; exact HG4.out) r5 g5
  have HT5 : Hid (ThsAt w5 W.heap.size p ll ap ac lp lc) := HP.out.chg (Nat.le_refl _) (HW.out.trans HMid.out.chg (fun _ _ x => x) (fun _ _ x => x))
  have hsW : W.heap.size ≤ V.heap.size := HW.out.size
  clear r5 g5 HM1 HB1 HC1 HM2 HC2 HZ1 HZ2 HMM HBB HV3 HB3 HW3 HB4 HG4 HR4
  go_wp2_with fail
  refine (pr_many HT5.out (Nat.le_trans hsW HMid.out.chg.size) hll HLS.out).mono ?_
  rintro e w6 ⟨tv0, sv, rfl, rv, qv, pb, hM⟩
  have HPM := keepH hM
  obtain ⟨pt, ct, et⟩ := slice_row hM.o1
  obtain ⟨ps, cs, es⟩ := slice_row hM.o2
  subst et es
  have HM6 : Hid (IsMem w6 (b + 1) b) := HMid.out.mem.chg hM.chg (fun x => x)
  have HTB : Hid (tooLongB (tlOfP ll rv pb) = false) := tooL_B.trans HB.out
  clear hM
  go_wp2_with fail
  refine (s_new (b + 1) b _ (tlOfP ll rv pb) w6 HM6.out HPM.out.lists HTB.out).mono ?_
  rintro e w7 ⟨r, G, tv, ths, vbs, rfl, hMd, hths⟩
  have etl : (tlOfP ll rv pb).length = ll.length := by simp [tlOfP]
  rw [etl] at hMd hths
  have HGR : Hid (GR (plK W.heap.size W) 200 (b + 1) b ll.length (clOf ll) (fun j => vbs.getD j 0) (pvOf ll pb) (c0Of ll lp lc) V w7 w7 (fun k => mineS ll.length (.slice ps ll.length cs) qv k ∨ mineS ll.length (.slice pt ll.length ct) rv k ∨ R k) r) := by
    obtain ⟨vs', hbk⟩ := HMid.out.bank
    obtain ⟨a1, a2, a3⟩ := HMid.out.lo
    obtain ⟨d1, d2, d3⟩ := HMid.out.ap
    exact gr_start HW.out HMid.out.chg HMid.out.mem hbk (by simp) a1 (by omega) d2 HPM.out hMd hths HP.out HL.out (fun k e => ⟨HMid.out.rm.lt k e, by have := a2 k e; omega, d1 k e, fun q => d3 (q ▸ e)⟩)
  have HC67 : Hid (Chg (fun _ => False) w6 w7) := hMd.chg
  clear hMd hths etl HTB HM6
  go_wp2_with fail
  have HT7 : Hid (ThsAt w7 W.heap.size p ll ap ac lp lc) := HP.out.chg (Nat.le_refl _) (((HW.out.trans HMid.out.chg (H := fun _ => False) (fun _ _ x => x) (fun _ _ x => x)).trans HPM.out.chg (H := fun _ => False) (fun _ _ x => x) (fun _ _ x => x)).trans HC67.out (fun _ _ x => x) (fun _ _ x => x))
  have HR7 : Hid (RM w7 R (b + 3) 200 1 (stN 200 [] 50 3) [⟨9, 2, 50, 3, 0, .slice none 0 0, [], 0, false⟩]) := (HMid.out.rm.chg HPM.out.chg (fun _ _ x => x)).chg HC67.out (fun _ _ x => x)
  have HS7 : Hid (W.heap.size ≤ w7.heap.size) := Nat.le_trans hsW (Nat.le_trans HMid.out.chg.size (Nat.le_trans HPM.out.chg.size HC67.out.size))
  refine (d4_new (m := ⟨1, stN 200 [] 50 3⟩) HT7.out HS7.out hll HLS.out HR7.out (fun k e => by have := HMid.out.lo.2.1 k e; omega) (by decide) (by simp) HB.out).mono ?_
  rintro e w8 ⟨q, rfl, K, hD4, hK, c78⟩
  have HD8 := keepH hD4
  have HK8 := keepH hK
  have HC78 := keepH c78
  have HG8 : Hid (GR (plK W.heap.size W) 200 (b + 1) b ll.length (clOf ll) (fun j => vbs.getD j 0) (pvOf ll pb) (c0Of ll lp lc) V w8 w8 (fun k => mineS ll.length (.slice ps ll.length cs) qv k ∨ mineS ll.length (.slice pt ll.length ct) rv k ∨ K k) r) := HGR.out.rebase c78 (fun k e => by
    rcases e with e | e | e
    · exact .inl (.inl e)
    · exact .inl (.inr (.inl e))
    · rcases hK k e with ⟨z | z, y⟩
      · exact .inl (.inr (.inr z))
      · exact .inr ⟨z, y⟩)
  have HKV : Hid (∀ k, K k → V.heap.size ≤ k) := fun k e => by
    rcases (hK k e).1 with z | z
    · exact HMid.out.lo.2.1 k z
    · have := HMid.out.chg.size; have := HPM.out.chg.size; have := HC67.out.size; omega
  have HMS : Hid (∀ k, mineS ll.length (.slice pt ll.length ct) rv k → V.heap.size ≤ k ∧ ∃ tp cur, (tp = 59 ∨ tp = 77) ∧ w6.heap[k]? = some (.cells cur tp (0, 0))) := fun k e => by
    have := HMid.out.chg.size
    rcases e with e | ⟨i, hi, e⟩
    · obtain ⟨z1, cur, z2⟩ := row_typ HPM.out.o1 e
      exact ⟨by omega, _, cur, .inl rfl, z2⟩
    · obtain ⟨z1, cur, z2⟩ := row_typ (HPM.out.r1 i _ hi (lOf_get hi)) e
      exact ⟨by omega, _, cur, .inr rfl, z2⟩
  have HNK : Hid (∀ k, K k → ¬ mineS ll.length (.slice pt ll.length ct) rv k) := fun k e q => by
    have hlt : w5.heap.size ≤ k ∧ k < w6.heap.size := by
      rcases q with q | ⟨i, hi, q⟩
      · obtain ⟨z1, cur, z2⟩ := row_typ HPM.out.o1 q
        exact ⟨z1, lt_of z2⟩
      · obtain ⟨z1, cur, z2⟩ := row_typ (HPM.out.r1 i _ hi (lOf_get hi)) q
        exact ⟨z1, lt_of z2⟩
    rcases (hK k e).1 with z | z
    · have := HMid.out.rm.lt k z; omega
    · have := HC67.out.size; omega
  have HNQ : Hid (∀ k, mineS ll.length (.slice ps ll.length cs) qv k → V.heap.size ≤ k ∧ k < w8.heap.size ∧ ¬ K k) := fun k q => by
    have hlt : w5.heap.size ≤ k ∧ k < w6.heap.size := by
      rcases q with q | ⟨i, hi, q⟩
      · obtain ⟨z1, cur, z2⟩ := row_typ HPM.out.o2 q
        exact ⟨z1, lt_of z2⟩
      · obtain ⟨z1, cur, z2⟩ := row_typ (HPM.out.r2 i _ hi (lOf_get hi)) q
        exact ⟨z1, lt_of z2⟩
    have a1 := HMid.out.chg.size; have a3 := HC67.out.size; have a4 := HC78.out.size
    refine ⟨by omega, by omega, fun e => ?_⟩
    rcases (hK k e).1 with z | z
    · have := HMid.out.rm.lt k z; omega
    · omega
  have HNM : Hid (∀ k, mineS ll.length (.slice ps ll.length cs) qv k → ¬ mineS ll.length (.slice pt ll.length ct) rv k) := fun k e q => by
    obtain ⟨_, tp, cur, htp, z2⟩ := HMS.out k q
    rcases e with e | ⟨i, hi, e⟩
    · obtain ⟨_, cur', z2'⟩ := row_typ HPM.out.o2 e
      rcases htp with rfl | rfl
      · exact typ_ne z2' z2 (by decide) rfl
      · exact typ_ne z2' z2 (by decide) rfl
    · obtain ⟨_, cur', z2'⟩ := row_typ (HPM.out.r2 i _ hi (lOf_get hi)) e
      rcases htp with rfl | rfl
      · exact typ_ne z2' z2 (by decide) rfl
      · exact typ_ne z2' z2 (by decide) rfl
  have HW0 : Hid (∀ gt, pt = some ⟨gt, 0, none⟩ → Wp w8 w8 ll gt ct rv 0) := fun gt eg => by
    have k68 : ∀ {k : Nat} {o : Obj}, w6.heap[k]? = some o → w8.heap[k]? = some o := fun hk => by
      have a1 := (HC67.out.block _ (lt_of hk) (fun x => x)).trans hk
      exact (c78.block _ (lt_of a1) (fun x => x)).trans a1
    have o1 := HPM.out.o1
    rw [eg] at o1
    refine ⟨?_, fun j g hj hg => ?_, fun j hj => ?_, Chg.refl _ _⟩
    · rcases o1.2 with ⟨e, _⟩ | ⟨g', cap, cur, e, _, hg', _, _, _, ht⟩
      · cases e
      · injection e with e1 _ _
        injection e1 with e1
        injection e1 with e1
        subst e1
        have e2 := congrArg List.length ht
        simp at e2
        refine ⟨cur, k68 hg', by omega, fun j _ hj => ?_⟩
        have e3 : ((List.range ll.length).map rv)[j]? = some (rv j) := by simp [hj]
        rw [← ht, List.getElem?_take_of_lt (by omega)] at e3
        simpa using e3
    · have hr := HPM.out.r1 j _ hj (lOf_get hj)
      rcases hr.2 with ⟨e, _⟩ | ⟨g', cap, cur, e, _, hg', _, _, _, ht⟩
      · rw [e] at hg; simp [Value.ownBlock] at hg
      · rw [e] at hg
        obtain rfl : g' = g := by simpa [Value.ownBlock] using hg
        refine ⟨cur, k68 hg', ?_⟩
        have e2 := congrArg List.length ht
        simp [ifL] at e2
        unfold clOf
        omega
    · have hr := HPM.out.r1 j _ hj (lOf_get hj)
      rcases hr.2 with ⟨e, h0⟩ | ⟨g', cap, cur, e, _⟩
      · exact ⟨none, 0, by rw [e]; unfold clOf; rw [h0], fun x => by unfold clOf at x; omega⟩
      · exact ⟨_, cap, e, fun _ => ⟨g', rfl⟩⟩
  have HTP : Hid (0 < ll.length → ∃ gt, pt = some ⟨gt, 0, none⟩) := fun h0 => by
    obtain ⟨gt, c', e⟩ := slice_pos (row_base HPM.out.o1) h0
    injection e with e _ _
    exact ⟨gt, e⟩
  have HCl : Hid (∀ j, clOf ll j ≤ 1048576) := fun j => by
    unfold clOf lOf
    rw [List.getD_eq_getElem?_getD]
    cases hz : ll[j]? with
    | none => simp
    | some l => exact HLS.out l (List.mem_of_getElem? hz)
  clear hD4 hK c78 HGR HT7 HR7 HS7
  go_wp2_with fail
  go_loopw [14] (fun s wx => ∃ i : Nat, i ≤ ll.length ∧ s = .int .i64 (i : Int) ∧ Hid ((∀ gt, pt = some ⟨gt, 0, none⟩ → Wp w8 wx ll gt ct rv i) ∧ Chg (mineS ll.length (.slice pt ll.length ct) rv) w8 wx)) (fun s _ => ll.length - (intOf s).toNat)
  case atStart => exact ⟨0, Nat.zero_le _, rfl, HW0.out, Chg.refl _ _⟩
  case round =>
    obtain ⟨i, hil, rfl, HX⟩ := hrel
    obtain ⟨w9, hw9⟩ : ∃ w9, w9 = wr := ⟨_, rfl⟩
    subst hw9
    by_cases hi : i < ll.length
    · have z1 : (i : Int) < (ll.length : Int) := by omega
      obtain ⟨gt, egt⟩ := HTP.out (by omega)
      subst egt
      have HWp := keepH (HX.out.1 gt rfl)
      obtain ⟨pi, ci, eri, hgi⟩ := HWp.out.sh i hi
      obtain ⟨n, hn⟩ : ∃ n, n = clOf ll i := ⟨_, rfl⟩
      have hn20 : n ≤ 1048576 := by rw [hn]; exact HCl.out i
      rw [← hn] at eri hgi
      have HN := keepH hn
      have HRI := keepH eri
      have HGI := keepH hgi
      clear HX hn eri hgi
      go_wp2_with fail
      go_loopw [15] (fun s wx => ∃ k : Nat, k ≤ n ∧ s = .int .i64 (k : Int) ∧ Hid (Wp w8 wx ll gt ct rv i)) (fun s _ => n - (intOf s).toNat)
      case atStart => exact ⟨0, Nat.zero_le _, rfl, HWp.out⟩
      case round =>
        obtain ⟨k, hkn, rfl, HY⟩ := hrel
        obtain ⟨w10, hw10⟩ : ∃ w10, w10 = wr := ⟨_, rfl⟩
        subst hw10
        have y0 : w10.cell? ⟨gt, i, none⟩ = some (.slice pi n ci) := by
          obtain ⟨cur, a1, a2, a3⟩ := HY.out.tb
          rw [cell_of a1 i, a3 i (Nat.le_refl _) hi, HRI.out]
        have yf : w10.frozen? ⟨gt, i, none⟩ = false := by
          obtain ⟨cur, a1, _⟩ := HY.out.tb
          exact free_of a1 i
        by_cases hk : k < n
        · have z2 : (k : Int) < (n : Int) := by omega
          obtain ⟨g, rfl⟩ := HGI.out (by omega)
          have hro : (rv i).ownBlock = some g := by rw [HRI.out]; rfl
          obtain ⟨cu, b1, b2⟩ := HY.out.rb i g hi hro
          obtain ⟨u, hu⟩ : ∃ u, w10.cell? ⟨g, k, none⟩ = some u := ⟨cu[k]'(by have := HN.out; omega), by rw [cell_of b1 k]; simp [show k < cu.size by have := HN.out; omega]⟩
          have hfr := free_of b1 k
          have HRO := keepH hro
          clear b1 b2 hro
          go_wp2_with fail
          go_roundw
          case rel => exact ⟨k + 1, by omega, by first | rfl | go_num, HY.out.cell i hi HRO.out _⟩
          case measure => simp [intOf]; omega
        · have z2 : ¬ (k : Int) < (n : Int) := by omega
          go_wp2_with fail
          go_roundw
          case rel => exact ⟨i + 1, by omega, by first | rfl | go_num, fun gt' e => by injection e with e; injection e with e; subst e; exact HY.out.row _, (HY.out.row _).chg⟩
          case measure => simp [intOf]; omega
    · have z1 : ¬ (i : Int) < (ll.length : Int) := by omega
      have HG9 : Hid (GR (plK W.heap.size W) 200 (b + 1) b ll.length (clOf ll) (fun j => vbs.getD j 0) (pvOf ll pb) (c0Of ll lp lc) V w8 w9 (fun k => mineS ll.length (.slice ps ll.length cs) qv k ∨ K k) r) := HG8.out.drop HX.out.2 (fun k e => ⟨.inr (.inl e), (HMS.out k e).1⟩) (fun k e => by
        rcases e with e | e
        · exact ⟨.inl e, HNM.out k e⟩
        · exact ⟨.inr (.inr e), HNK.out k e⟩)
      have HD9 : Hid (D4x w9 W.heap.size q (b + 3) ll.length p c8 ⟨0, fun _ => 0, fun _ => 0, [], [-1], fun _ => [], ⟨1, stN 200 [] 50 3⟩, [⟨9, 2, 50, 3, 0, .slice none 0 0, [], 0, false⟩]⟩ K) := HD8.out.keep HX.out.2.size (fun k e => HX.out.2.block k (HK8.out k e).2 (HNK.out k e))
      have HS9 : Hid (V.heap.size ≤ w9.heap.size) := by
        have a1 := HMid.out.chg.size; have a2 := HPM.out.chg.size; have a3 := HC67.out.size; have a4 := HC78.out.size; have a5 := HX.out.2.size
        show _ ≤ _
        omega
      have HSZ89 : Hid (w8.heap.size ≤ w9.heap.size) := HX.out.2.size
      have HMN : Hid (∀ o, MineAt (w9.alloc o) ll (.slice ps ll.length cs) qv pb) := fun o => by
        obtain ⟨G', K', vw', tv', ev', av', ths', g'⟩ := HG9.out
        have kp : ∀ k, k < w6.heap.size → mineS ll.length (.slice ps ll.length cs) qv k → (w9.alloc o).heap[k]? = w6.heap[k]? := fun k lk e => by
          have z := g'.keep k (.inl e)
          exact (Below.heap_alloc _ _ k z.1).trans (z.2.1.trans ((HC78.out.block k (by have := HC67.out.size; omega) (fun x => x)).trans (HC67.out.block k lk (fun x => x))))
        exact ⟨row_kept (row_base HPM.out.o2) (fun k e => kp k (HPM.out.o2.lt k e).2 (.inl e)), fun i hi => row_kept (row_base (HPM.out.r2 i _ hi (lOf_get hi))) (fun k e => kp k ((HPM.out.r2 i _ hi (lOf_get hi)).lt k e).2 (.inr ⟨i, hi, e⟩))⟩
      clear HX
      go_wp2_with fail
      go_ret3
      refine ⟨w9.heap.size, q, by simp, b + 1, r, b, b + 3, .slice ps ll.length cs, heap_alloc_new _ _, HS9.out, qv, fun j => vbs.getD j 0, pb, K, HG9.out.rebase ((Chg.refl (fun _ => False) w9).alloc _) (fun k e => ?_), HD9.out.keep (by simp) (fun k e => Below.heap_alloc _ _ k ?_), fun k e => ⟨HKV.out k e, Nat.lt_of_lt_of_le (HK8.out k e).2 HSZ89.out⟩, HMN.out _, fun k e => ⟨(HNQ.out k e).1, Nat.lt_of_lt_of_le (HNQ.out k e).2.1 HSZ89.out, (HNQ.out k e).2.2⟩⟩
      · rcases e with e | e | e
        · exact .inl (.inl e)
        · exact .inl (.inr e)
        · exact .inr (by rw [e]; simp)
      · obtain ⟨tg, gc, ga, gg, ev, wv, gv, R', h', hK'⟩ := HD9.out
        have a1 := (HK8.out k e).2
        have a2 : Hid (w8.heap.size ≤ w9.heap.size) := HSZ89
        exact Nat.lt_of_lt_of_le a1 a2.out
end Go.Proofs.Ytnhiodmigmmfgaa
/- Both, walked: threads that are too long. -/
namespace Go.Proofs.Ytnhiodmigmmfgaa
open Go.RowKit Go.Shelf
set_option linter.unusedVariables false

set_option maxRecDepth 100000 in
set_option maxHeartbeats 16000000 in
theorem both_long {W V : World} {p : Option Addr} {c8 : Nat} {ll : List (List PlP)} {ap : Nat → Option Addr} {ac : Nat → Nat} {lp : Nat → Nat → Option Addr} {lc : Nat → Nat → Nat} (hW : Chg (fun _ => False) W V) (hP : ThsAt W W.heap.size p ll ap ac lp lc) (hll : ll.length ≤ 1048576) (hls : ∀ l ∈ ll, l.length ≤ 1048576) (hL : ∀ l ∈ ll, ∀ q ∈ l, q.L.length ≤ 1048576) (hb : tooL ll = true) :
    Calls Try.prog 5 #[.slice p ll.length c8] V fun e Y => ∃ wb, e = .returned (.tuple #[.pointer (some ⟨wb, 0, none⟩), .pointer none, .bool true]) ∧ Chg (fun _ => False) V Y := by
  have HW := keepH hW
  have HP := keepH hP
  have HLS := keepH hls
  have HL := keepH hL
  have HB := keepH hb
  clear hW hP hls hL hb
  go_enter Try.func5, Try.ntmps5
  go_wp2_with fail
  refine (m_new 200 V (by omega)).mono ?_
  rintro e w1 ⟨rfl, m1, b1, c1, z1⟩
  obtain ⟨b, eb⟩ : ∃ b, V.heap.size = b := ⟨_, rfl⟩
  rw [eb] at m1 b1 z1 ⊢
  have HM1 := keepH m1
  have HB1 := keepH b1
  have HC1 := keepH c1
  have HEB := keepH eb
  clear m1 b1 c1 eb
  go_wp2_with fail
  refine (r_new 200 w1 (by omega)).mono ?_
  rintro e w2 ⟨rfl, m2, c2, z2⟩
  rw [z1] at m2 z2 ⊢
  have HM2 : Hid (RMem w2 (fun k => k = b + 2 ∨ k = b + 3) (b + 3) 200 1 [] []) := m2
  have HC2 := keepH c2
  have HZ1 := keepH z1
  have HZ2 : Hid (w2.heap.size = b + 4) := z2
  clear m2 c2 z1 z2
  simp only [show b + 2 + 1 = b + 3 from rfl]
  have HMM : Hid (IsMem w2 (b + 1) b) := (HC2.out.block _ (by have := HZ1.out; omega) (fun x => x)).trans HM1.out
  have HBB : Hid (Bank w2 (fun k => k = b) b 200 1 [] []) := HB1.out.chg HC2.out (fun _ _ x => x)
  go_wp2_with fail
  refine (m_view (b + 1) b 9 _ HMM.out).mono ?_
  rintro e w3 ⟨rfl, hw3⟩
  rw [HZ2.out]
  have HV3 : Hid (IsView w3 (b + 4) b 9 0) := by rw [hw3, ← HZ2.out]; exact heap_alloc_new _ _
  have HB3 : Hid (Bank w3 (fun k => k = b) b 200 1 [] []) := by rw [hw3]; exact HBB.out.chg ((Chg.refl (fun _ => False) w2).alloc _) (fun _ _ x => x)
  have HW3 := keepH hw3
  clear hw3
  go_wp2_with fail
  refine (v_store (b + 4) b 200 1 0 9 50 3 (fun k => k = b) [] [] w3 HV3.out HB3.out (by omega) (by omega) (by simp) (by omega) (by omega)).mono ?_
  rintro e w4 ⟨rfl, F, vs, b4, v4, g4⟩
  have HB4 := keepH b4
  have HG4 := keepH g4
  have HR4 : Hid (RMem w4 (fun k => k = b + 2 ∨ k = b + 3) (b + 3) 200 1 [] []) := (HM2.out.chg (G := fun _ => False) (by rw [HW3.out]; exact (Chg.refl _ _).alloc _) (fun _ _ x => x)).chg g4.chg (fun k e q => by rcases e with e | e <;> rcases q with q | q <;> omega)
  clear b4 v4 g4
  go_wp2_with fail
  refine (r_store (b + 3) 200 1 50 3 9 _ [] [] w4 HR4.out (by simp) (by omega) (by omega)).mono ?_
  rintro e w5 ⟨rfl, R, r5, g5⟩
  have HMid : Hid (Mid9 V w5 F R b) := mid9 (o := .cells #[.iface 85 (.pointer (some ⟨b, 0, none⟩)), .int .i64 9, .int .i64 0] 109) HEB.out HM1.out HC1.out HZ1.out HC2.out HZ2.out rfl HB4.out (by rw [← HW3.out]; exact HG4.out) r5 g5
  have HT5 : Hid (ThsAt w5 W.heap.size p ll ap ac lp lc) := HP.out.chg (Nat.le_refl _) (HW.out.trans HMid.out.chg (fun _ _ x => x) (fun _ _ x => x))
  have hsW : W.heap.size ≤ V.heap.size := HW.out.size
  clear r5 g5 HM1 HB1 HC1 HM2 HC2 HZ1 HZ2 HMM HBB HV3 HB3 HW3 HB4 HG4 HR4
  go_wp2_with fail
  refine (pr_many HT5.out (Nat.le_trans hsW HMid.out.chg.size) hll HLS.out).mono ?_
  rintro e w6 ⟨tv0, sv, rfl, rv, qv, pb, hM⟩
  have HPM := keepH hM
  obtain ⟨pt, ct, et⟩ := slice_row hM.o1
  obtain ⟨ps, cs, es⟩ := slice_row hM.o2
  subst et es
  have HM6 : Hid (IsMem w6 (b + 1) b) := HMid.out.mem.chg hM.chg (fun x => x)
  have HTB : Hid (tooLongB (tlOfP ll rv pb) = true) := tooL_B.trans HB.out
  clear hM
  go_wp2_with fail
  refine (s_new_long (b + 1) _ (tlOfP ll rv pb) w6 HPM.out.lists (by simp [tlOfP]; omega) (fun x hx => by
    obtain ⟨i, hi, rfl⟩ := List.mem_map.1 hx
    have := HLS.out _ (List.mem_of_getElem? (lOf_get (List.mem_range.1 hi)))
    simp [ifL]
    omega) HTB.out).mono ?_
  rintro e w7 ⟨rfl, hw7⟩
  subst hw7
  have HT7 : Hid (ThsAt w7 W.heap.size p ll ap ac lp lc) := HP.out.chg (Nat.le_refl _) ((HW.out.trans HMid.out.chg (H := fun _ => False) (fun _ _ x => x) (fun _ _ x => x)).trans HPM.out.chg (fun _ _ x => x) (fun _ _ x => x))
  have HS7 : Hid (W.heap.size ≤ w7.heap.size) := Nat.le_trans hsW (Nat.le_trans HMid.out.chg.size HPM.out.chg.size)
  clear HTB HM6
  go_wp2_with fail
  refine (d4_long HT7.out HS7.out hll HLS.out HB.out).mono ?_
  rintro e w8 ⟨rfl, c78⟩
  have HC78 := keepH c78
  have HMS : Hid (∀ k, mineS ll.length (.slice pt ll.length ct) rv k → V.heap.size ≤ k ∧ ∃ tp cur, (tp = 59 ∨ tp = 77) ∧ w7.heap[k]? = some (.cells cur tp (0, 0))) := fun k e => by
    have := HMid.out.chg.size
    rcases e with e | ⟨i, hi, e⟩
    · obtain ⟨z1, cur, z2⟩ := row_typ HPM.out.o1 e
      exact ⟨by omega, _, cur, .inl rfl, z2⟩
    · obtain ⟨z1, cur, z2⟩ := row_typ (HPM.out.r1 i _ hi (lOf_get hi)) e
      exact ⟨by omega, _, cur, .inr rfl, z2⟩
  have HW0 : Hid (∀ gt, pt = some ⟨gt, 0, none⟩ → Wp w8 w8 ll gt ct rv 0) := fun gt eg => by
    have k68 : ∀ {k : Nat} {o : Obj}, w7.heap[k]? = some o → w8.heap[k]? = some o := fun hk => (c78.block _ (lt_of hk) (fun x => x)).trans hk
    have o1 := HPM.out.o1
    rw [eg] at o1
    refine ⟨?_, fun j g hj hg => ?_, fun j hj => ?_, Chg.refl _ _⟩
    · rcases o1.2 with ⟨e, _⟩ | ⟨g', cap, cur, e, _, hg', _, _, _, ht⟩
      · cases e
      · injection e with e1 _ _
        injection e1 with e1
        injection e1 with e1
        subst e1
        have e2 := congrArg List.length ht
        simp at e2
        refine ⟨cur, k68 hg', by omega, fun j _ hj => ?_⟩
        have e3 : ((List.range ll.length).map rv)[j]? = some (rv j) := by simp [hj]
        rw [← ht, List.getElem?_take_of_lt (by omega)] at e3
        simpa using e3
    · have hr := HPM.out.r1 j _ hj (lOf_get hj)
      rcases hr.2 with ⟨e, _⟩ | ⟨g', cap, cur, e, _, hg', _, _, _, ht⟩
      · rw [e] at hg; simp [Value.ownBlock] at hg
      · rw [e] at hg
        obtain rfl : g' = g := by simpa [Value.ownBlock] using hg
        refine ⟨cur, k68 hg', ?_⟩
        have e2 := congrArg List.length ht
        simp [ifL] at e2
        unfold clOf
        omega
    · have hr := HPM.out.r1 j _ hj (lOf_get hj)
      rcases hr.2 with ⟨e, h0⟩ | ⟨g', cap, cur, e, _⟩
      · exact ⟨none, 0, by rw [e]; unfold clOf; rw [h0], fun x => by unfold clOf at x; omega⟩
      · exact ⟨_, cap, e, fun _ => ⟨g', rfl⟩⟩
  have HTP : Hid (0 < ll.length → ∃ gt, pt = some ⟨gt, 0, none⟩) := fun h0 => by
    obtain ⟨gt, c', e⟩ := slice_pos (row_base HPM.out.o1) h0
    injection e with e _ _
    exact ⟨gt, e⟩
  have HCl : Hid (∀ j, clOf ll j ≤ 1048576) := fun j => by
    unfold clOf lOf
    rw [List.getD_eq_getElem?_getD]
    cases hz : ll[j]? with
    | none => simp
    | some l => exact HLS.out l (List.mem_of_getElem? hz)
  clear c78 HT7 HS7
  go_wp2_with fail
  go_loopw [14] (fun s wx => ∃ i : Nat, i ≤ ll.length ∧ s = .int .i64 (i : Int) ∧ Hid ((∀ gt, pt = some ⟨gt, 0, none⟩ → Wp w8 wx ll gt ct rv i) ∧ Chg (mineS ll.length (.slice pt ll.length ct) rv) w8 wx)) (fun s _ => ll.length - (intOf s).toNat)
  case atStart => exact ⟨0, Nat.zero_le _, rfl, HW0.out, Chg.refl _ _⟩
  case round =>
    obtain ⟨i, hil, rfl, HX⟩ := hrel
    obtain ⟨w9, hw9⟩ : ∃ w9, w9 = wr := ⟨_, rfl⟩
    subst hw9
    by_cases hi : i < ll.length
    · have z1 : (i : Int) < (ll.length : Int) := by omega
      obtain ⟨gt, egt⟩ := HTP.out (by omega)
      subst egt
      have HWp := keepH (HX.out.1 gt rfl)
      obtain ⟨pi, ci, eri, hgi⟩ := HWp.out.sh i hi
      obtain ⟨n, hn⟩ : ∃ n, n = clOf ll i := ⟨_, rfl⟩
      have hn20 : n ≤ 1048576 := by rw [hn]; exact HCl.out i
      rw [← hn] at eri hgi
      have HN := keepH hn
      have HRI := keepH eri
      have HGI := keepH hgi
      clear HX hn eri hgi
      go_wp2_with fail
      go_loopw [15] (fun s wx => ∃ k : Nat, k ≤ n ∧ s = .int .i64 (k : Int) ∧ Hid (Wp w8 wx ll gt ct rv i)) (fun s _ => n - (intOf s).toNat)
      case atStart => exact ⟨0, Nat.zero_le _, rfl, HWp.out⟩
      case round =>
        obtain ⟨k, hkn, rfl, HY⟩ := hrel
        obtain ⟨w10, hw10⟩ : ∃ w10, w10 = wr := ⟨_, rfl⟩
        subst hw10
        have y0 : w10.cell? ⟨gt, i, none⟩ = some (.slice pi n ci) := by
          obtain ⟨cur, a1, a2, a3⟩ := HY.out.tb
          rw [cell_of a1 i, a3 i (Nat.le_refl _) hi, HRI.out]
        have yf : w10.frozen? ⟨gt, i, none⟩ = false := by
          obtain ⟨cur, a1, _⟩ := HY.out.tb
          exact free_of a1 i
        by_cases hk : k < n
        · have z2 : (k : Int) < (n : Int) := by omega
          obtain ⟨g, rfl⟩ := HGI.out (by omega)
          have hro : (rv i).ownBlock = some g := by rw [HRI.out]; rfl
          obtain ⟨cu, b1, b2⟩ := HY.out.rb i g hi hro
          obtain ⟨u, hu⟩ : ∃ u, w10.cell? ⟨g, k, none⟩ = some u := ⟨cu[k]'(by have := HN.out; omega), by rw [cell_of b1 k]; simp [show k < cu.size by have := HN.out; omega]⟩
          have hfr := free_of b1 k
          have HRO := keepH hro
          clear b1 b2 hro
          go_wp2_with fail
          go_roundw
          case rel => exact ⟨k + 1, by omega, by first | rfl | go_num, HY.out.cell i hi HRO.out _⟩
          case measure => simp [intOf]; omega
        · have z2 : ¬ (k : Int) < (n : Int) := by omega
          go_wp2_with fail
          go_roundw
          case rel => exact ⟨i + 1, by omega, by first | rfl | go_num, fun gt' e => by injection e with e; injection e with e; subst e; exact HY.out.row _, (HY.out.row _).chg⟩
          case measure => simp [intOf]; omega
    · have z1 : ¬ (i : Int) < (ll.length : Int) := by omega
      have HCE : Hid (Chg (fun _ => False) V w9) := ((HMid.out.chg.trans HPM.out.chg (H := fun _ => False) (fun _ _ x => x) (fun _ _ x => x)).trans HC78.out (H := fun _ => False) (fun _ _ x => x) (fun _ _ x => x)).trans HX.out.2 (fun _ _ x => x) (fun k hk e => by have := (HMS.out k e).1; omega)
      clear HX
      go_wp2_with fail
      go_ret3
      exact ⟨⟨_, by simp; rfl⟩, HCE.out.alloc _⟩
end Go.Proofs.Ytnhiodmigmmfgaa
/- Events that are the same; nobody is under way. -/
namespace Go.Proofs.Ytnhiodmigmmfgaa
open Go.RowKit Go.Shelf
set_option linter.unusedVariables false

section
variable {P : Type} {Lo : Nat} {W0 : World} {κ : KindL P Lo W0} {most m b T : Nat} {cl : Nat → Nat} {vb : Nat → Nat} {pv : Nat → Nat → Value} {c : Cfg P} {W Z X Y : World} {S : Nat → Prop} {r : Nat}
/-- The run beside what others do. -/
theorem GR.shift (h : GR κ most m b T cl vb pv c W Z X S r) {W' : World} (hW : W'.heap.size ≤ W.heap.size) (hlo : Lo ≤ W'.heap.size) (hc : Chg (fun _ => False) W' Y) (hs : X.heap.size ≤ Y.heap.size) (E : Nat → Prop) (hE : ∀ k, E k → S k) (hk : ∀ k, k < X.heap.size → ¬ E k → (k < Lo ∨ W.heap.size ≤ k) → Y.heap[k]? = X.heap[k]?) {S' : Nat → Prop} (hS : ∀ k, S' k → Lo ≤ k ∧ k < Y.heap.size ∧ (k < W.heap.size ∨ X.heap.size ≤ k ∨ S k)) : GR κ most m b T cl vb pv c W' Y Y S' r := by
  obtain ⟨G, K, vw, tv, ev, av, ths, h⟩ := h
  refine ⟨G, K, vw, tv, ev, av, ths, h.run.kept hs (fun k e => hk k (h.run.lt k e) (fun z => (h.keep k (hE k z)).2.2.1 e) (.inr (h.inW k (.inl e)))), h.ma.keep hs (fun k e => hk k (h.ma.ltK k e) (fun z => (h.keep k (hE k z)).2.2.2 e) ?_), h.apart, h.len, h.thr, h.vws, h.evl, fun j e => Nat.le_trans hW (h.inW j e), hlo, hc, Nat.le_refl _, fun j hj => ?_⟩
  · by_cases z : k < Lo
    · exact .inl z
    · exact .inr (h.inW k (.inr ⟨e, by omega⟩))
  · obtain ⟨s1, s2, s3⟩ := hS j hj
    refine ⟨s2, rfl, fun g => ?_, fun g => ?_⟩
    · rcases s3 with z | z | z
      · have := h.inW j (.inl g); omega
      · have := h.run.lt j g; omega
      · exact (h.keep j z).2.2.1 g
    · rcases s3 with z | z | z
      · have := h.inW j (.inr ⟨g, s1⟩); omega
      · have := h.ma.ltK j g; omega
      · exact (h.keep j z).2.2.2 g
theorem GR.zsize (h : GR κ most m b T cl vb pv c W Z X S r) : Z.heap.size ≤ X.heap.size := by
  obtain ⟨G, K, vw, tv, ev, av, ths, h⟩ := h
  exact h.zs
theorem GR.kept (h : GR κ most m b T cl vb pv c W Z X S r) (k : Nat) (hk : S k) : X.heap[k]? = Z.heap[k]? ∧ k < X.heap.size := by
  obtain ⟨G, K, vw, tv, ev, av, ths, h⟩ := h
  exact ⟨(h.keep k hk).2.1, (h.keep k hk).1⟩
set_option maxRecDepth 100000 in
set_option maxHeartbeats 2000000 in
theorem gr_runS (p : Option Addr) (c8 : Nat) (l : List Int) (h : GR κ most m b T cl vb pv c W Z X S r) (hpW : ∀ c w, GR κ most m b T cl vb pv c W Z w S r → IReads w p l) (hn : c.st + l.length ≤ 16777216) :
    Calls Try.prog 6 #[.pointer (some ⟨r, 0, none⟩), .slice p l.length c8] X fun e X' => e = .returned (.tuple #[]) ∧ GR κ most m b T cl vb pv (c.run κ most T cl l) W Z X' S r := by
  have H := keepH h
  have HP := keepH hpW
  clear h hpW
  go_enter Try.func6, Try.ntmps6
  go_wp2_with fail
  go_loopw [8] (fun s wr => ∃ k : Nat, k ≤ l.length ∧ s = .int .i64 (k : Int) ∧ Hid (GR κ most m b T cl vb pv (c.run κ most T cl (l.take k)) W Z wr S r)) (fun s _ => l.length - (intOf s).toNat)
  case atStart => exact ⟨0, by omega, rfl, H⟩
  case round =>
    obtain ⟨k, hk, rfl, HK⟩ := hrel
    by_cases hlt : k < l.length
    · have t1 : (k : Int) < (l.length : Int) := by omega
      obtain ⟨x, hx⟩ : ∃ x, l[k]? = some x := ⟨l[k], List.getElem?_eq_getElem hlt⟩
      obtain ⟨bk, off, rfl, _, cx⟩ := (HP.out _ _ HK.out).get k x hx
      have HX := keepH (Cfg.run_more κ most T cl c l k x hx)
      have hst : (c.run κ most T cl (l.take k)).st ≤ 16777216 := by rw [run_st, List.length_take]; omega
      have HST := keepH hst
      clear hx hst
      go_wp2_with fail
      refine (gr_pick HK.out x HST.out).mono ?_
      rintro e w' ⟨rfl, A'⟩
      have HA := keepH A'
      clear A'
      go_wp2_with fail
      go_roundw
      case rel => exact ⟨k + 1, by omega, by first | rfl | go_num, by rw [HX.out]; exact HA⟩
      case measure => simp [intOf]; omega
    · have t1 : ¬ (k : Int) < (l.length : Int) := by omega
      go_wp2_with fail
      go_end0
      obtain rfl : k = l.length := by omega
      refine ⟨rfl, ?_⟩
      have := HK.out
      rw [List.take_of_length_le (Nat.le_refl _)] at this
      exact this
end
end Go.Proofs.Ytnhiodmigmmfgaa
/- Threads on cells of their own: what they leave does not hang on the picks (for StepApart). -/
namespace Go.Proofs.Ytnhiodmigmmfgaa
open Go.RowKit Go.Shelf
set_option linter.unusedVariables false

def rng (i a : Nat) : Prop := 60 + 10 * i ≤ a ∧ a < 70 + 10 * i
/-- A thread's own state: its call, its procs, its cells. -/
structure TS where
  ix : Nat
  σ : Nat → PS
  mem : Nat → Nat
def OwnP (i : Nat) (q : PlP) : Prop := ∀ d ∈ q.L, rng i d.ad ∧ d.kd ≠ 5
theorem casN_cell (most : Nat) (cs : List Nat) (ad old now j : Nat) : cellN (casN most cs ad old now) j = if j = ad ∧ ad < most ∧ cellN cs ad = old then now else cellN cs j := by
  unfold casN
  by_cases h : ad < most ∧ cellN cs ad = old
  · rw [if_pos h, putN_cell]
    by_cases e : j = ad
    · rw [if_pos e, if_pos ⟨e, h⟩]
    · rw [if_neg e, if_neg (fun z => e z.1)]
  · rw [if_neg h, if_neg (fun z => h z.2)]
theorem mk_like {i : Nat} {m m' : Mu} {d : DoP} (hd : rng i d.ad ∧ d.kd ≠ 5) (h : ∀ a, rng i a → cellN m.cs a = cellN m'.cs a) : mkR 200 m d = mkR 200 m' d ∧ (∀ a, rng i a → cellN (mkM 200 m d).cs a = cellN (mkM 200 m' d).cs a) ∧ ∀ a, ¬ rng i a → cellN (mkM 200 m d).cs a = cellN m.cs a := by
  have hc := h d.ad hd.1
  have h5 := hd.2
  refine ⟨?_, fun a ha => ?_, fun a ha => ?_⟩
  · unfold mkR
    rw [hc, if_neg h5, if_neg h5]
    have e : casOk 200 m.cs d.ad d.a = casOk 200 m'.cs d.ad d.a := by unfold casOk; rw [hc]
    rw [e]
  · have hx := h a ha
    unfold mkM
    rw [if_neg h5, if_neg h5]
    split
    · simp only [stN_cell]; rw [hx]
    split
    · simp only [casN_cell]; rw [hx, hc]
    split
    · simp only [stN_cell]; rw [hx, hc]
    · exact hx
  · have ne : a ≠ d.ad := fun e => ha (by rw [e]; exact hd.1)
    unfold mkM
    rw [if_neg h5]
    split
    · simp only [stN_cell]; rw [if_neg (fun z => ne z.1)]
    split
    · simp only [casN_cell]; rw [if_neg (fun z => ne z.1)]
    split
    · simp only [stN_cell]; rw [if_neg (fun z => ne z.1)]
    · rfl
theorem ps_like {i : Nat} {s : PS} (hs : OwnP i s.pl) {n n' : Nat} {cs cs' : List Nat} (h : ∀ a, rng i a → cellN cs a = cellN cs' a) (th : Int) : (psS th 200 n cs s).done = (psS th 200 n' cs' s).done ∧ (psS th 200 n cs s).s = (psS th 200 n' cs' s).s ∧ (∀ a, rng i a → cellN (psS th 200 n cs s).cs a = cellN (psS th 200 n' cs' s).cs a) ∧ ∀ a, ¬ rng i a → cellN (psS th 200 n cs s).cs a = cellN cs a := by
  unfold psS
  by_cases hn : s.pl.none = true
  · simp only [if_pos hn]
    exact ⟨trivial, trivial, h, by intros; first | rfl | trivial⟩
  · simp only [if_neg hn]
    cases hd : s.pl.L[s.at_]? with
    | none => exact ⟨trivial, by first | rfl | trivial, h, fun _ _ => rfl⟩
    | some d =>
      obtain ⟨k1, k2, k3⟩ := mk_like (m := ⟨n, cs⟩) (m' := ⟨n', cs'⟩) (hs d (List.mem_of_getElem? hd)) h
      refine ⟨trivial, ?_, k2, k3⟩
      have e : nxtG 200 ⟨n, cs⟩ (some d) = nxtG 200 ⟨n', cs'⟩ (some d) := by simp only [nxtG, mkG]; rw [k1]
      rw [e]
def csOf (mem : Nat → Nat) : List Nat := (List.range 200).map mem
theorem csOf_cell (mem : Nat → Nat) {a : Nat} (h : a < 200) : cellN (csOf mem) a = mem a := by simp [cellN, csOf, h]
def tstep (cl : Nat → Nat) (i : Nat) (s : TS) : TS := if s.ix < cl i then ⟨if (psS (i : Int) 200 1 (csOf s.mem) (s.σ s.ix)).done = true then s.ix + 1 else s.ix, updN s.σ s.ix (psS (i : Int) 200 1 (csOf s.mem) (s.σ s.ix)).s, fun a => cellN (psS (i : Int) 200 1 (csOf s.mem) (s.σ s.ix)).cs a⟩ else s
def titer (cl : Nat → Nat) (i : Nat) (s : TS) : Nat → TS
  | 0 => s
  | n + 1 => tstep cl i (titer cl i s n)
theorem titer_stop {cl : Nat → Nat} {i : Nat} {s : TS} {n : Nat} (h : cl i ≤ (titer cl i s n).ix) : ∀ k, titer cl i s (n + k) = titer cl i s n
  | 0 => rfl
  | k + 1 => by
    show tstep cl i (titer cl i s (n + k)) = _
    rw [titer_stop h k]
    unfold tstep
    rw [if_neg (by omega)]
theorem titer_ends {cl : Nat → Nat} {i : Nat} {s : TS} {n n' : Nat} (h : cl i ≤ (titer cl i s n).ix) (h' : cl i ≤ (titer cl i s n').ix) : titer cl i s n = titer cl i s n' := by
  rcases Nat.le_total n n' with e | e
  · obtain ⟨k, rfl⟩ := Nat.exists_eq_add_of_le e
    exact (titer_stop h k).symm
  · obtain ⟨k, rfl⟩ := Nat.exists_eq_add_of_le e
    exact titer_stop h' k
structure Tsim (i : Nat) (c : Cfg PS) (s : TS) : Prop where
  ix : c.ix i = s.ix
  σ : ∀ j, c.σ i j = s.σ j
  mem : ∀ a, rng i a → cellN c.cs a = s.mem a
section
variable {Lo : Nat} {W0 : World} {T : Nat} {cl : Nat → Nat} {pl : Nat → Nat → PlP} {c c' c0 : Cfg PS}
theorem Tsim.go {i : Nat} {s : TS} (h : Tsim i c s) (hi : i < 10) (hs : OwnP i (c.σ i (c.ix i)).pl) (hj : c.ix i < cl i) : Tsim i (c.go (plK Lo W0) 200 i).tick (tstep cl i s) := by
  have hm : ∀ a, rng i a → cellN c.cs a = cellN (csOf s.mem) a := fun a ha => by rw [h.mem a ha, csOf_cell _ (by unfold rng at ha; omega)]
  obtain ⟨p1, p2, p3, _⟩ := ps_like hs (n := c.next) (n' := 1) hm (i : Int)
  have e0 : c.σ i (c.ix i) = s.σ s.ix := by rw [h.σ, h.ix]
  rw [e0] at p1 p2 p3
  have hlt : s.ix < cl i := by rw [← h.ix]; exact hj
  unfold tstep
  rw [if_pos hlt]
  refine ⟨?_, fun j => ?_, fun a ha => ?_⟩
  · show updN c.ix i (if (psS (i : Int) 200 c.next c.cs (c.σ i (c.ix i))).done then c.ix i + 1 else c.ix i) i = _
    rw [updN_same, e0, p1, h.ix]
  · show updN c.σ i (updN (c.σ i) (c.ix i) (psS (i : Int) 200 c.next c.cs (c.σ i (c.ix i))).s) i j = _
    rw [updN_same, e0, p2, h.ix]
    show updN (c.σ i) s.ix _ j = updN s.σ s.ix _ j
    unfold updN
    by_cases e : j = s.ix
    · rw [if_pos e, if_pos e]
    · rw [if_neg e, if_neg e]; exact h.σ j
  · show cellN (psS (i : Int) 200 c.next c.cs (c.σ i (c.ix i))).cs a = _
    rw [e0]
    exact p3 a ha
theorem Tsim.other {i j : Nat} {s : TS} (h : Tsim j c s) (hji : j ≠ i) (hs : OwnP i (c.σ i (c.ix i)).pl) : Tsim j (c.go (plK Lo W0) 200 i).tick s := by
  obtain ⟨_, _, _, p4⟩ := ps_like hs (n := c.next) (n' := c.next) (cs := c.cs) (cs' := c.cs) (fun _ _ => rfl) (i : Int)
  refine ⟨?_, fun k => ?_, fun a ha => ?_⟩
  · show updN c.ix i _ j = _
    rw [updN_other _ _ _ _ hji]; exact h.ix
  · show updN c.σ i _ j k = _
    rw [updN_other _ _ _ _ hji]; exact h.σ k
  · show cellN (psS (i : Int) 200 c.next c.cs (c.σ i (c.ix i))).cs a = _
    rw [p4 a (fun z => by unfold rng at ha z; omega)]
    exact h.mem a ha
/-- What holds of any run of threads on cells of their own. -/
structure AInv (T : Nat) (cl : Nat → Nat) (pl : Nat → Nat → PlP) (c0 c : Cfg PS) : Prop where
  inv : PInv T cl pl c
  sim : ∀ i, i < T → ∃ n, Tsim i c (titer cl i ⟨c0.ix i, c0.σ i, fun a => cellN c0.cs a⟩ n)
  out : ∀ a, (∀ i, i < T → ¬ rng i a) → cellN c.cs a = cellN c0.cs a
theorem AInv.start (h : PInv T cl pl c) : AInv T cl pl c c := ⟨h, fun i _ => ⟨0, rfl, fun _ => rfl, fun _ _ => rfl⟩, fun _ _ => rfl⟩
theorem AInv.pick (h : AInv T cl pl c0 c) (hT : T ≤ 10) (hp : ∀ i j, i < T → j < cl i → OwnP i (pl i j)) (th : Int) : AInv T cl pl c0 (c.pick (plK Lo W0) 200 T cl th) := by
  have hI := (h.inv.pick (Lo := Lo) (W0 := W0) (most := 200) th).1
  unfold Cfg.pick at hI ⊢
  by_cases hc : Cfg.can T cl c th
  · rw [if_pos hc] at hI ⊢
    have hi : th.toNat < T := by have := hc.1; have := hc.2.1; omega
    have hj := hc.2.2
    have hs : OwnP th.toNat (c.σ th.toNat (c.ix th.toNat)).pl := by rw [h.inv.pl _ _ hi hj]; exact hp _ _ hi hj
    refine ⟨hI, fun k hk => ?_, fun a ha => ?_⟩
    · obtain ⟨n, hn⟩ := h.sim k hk
      by_cases e : k = th.toNat
      · subst e
        exact ⟨n + 1, hn.go (by omega) hs hj⟩
      · exact ⟨n, hn.other e hs⟩
    · obtain ⟨_, _, _, p4⟩ := ps_like hs (n := c.next) (n' := c.next) (cs := c.cs) (cs' := c.cs) (fun _ _ => rfl) (th.toNat : Int)
      show cellN (psS (th.toNat : Int) 200 c.next c.cs (c.σ th.toNat (c.ix th.toNat))).cs a = _
      rw [p4 a (ha _ hi)]
      exact h.out a ha
  · rw [if_neg hc] at hI ⊢
    exact ⟨hI, fun k hk => by obtain ⟨n, hn⟩ := h.sim k hk; exact ⟨n, hn.ix, hn.σ, hn.mem⟩, h.out⟩
theorem AInv.run (hT : T ≤ 10) (hp : ∀ i j, i < T → j < cl i → OwnP i (pl i j)) : ∀ (l : List Int) (c : Cfg PS), AInv T cl pl c0 c → AInv T cl pl c0 (c.run (plK Lo W0) 200 T cl l)
  | [], c, h => h
  | th :: l, c, h => AInv.run hT hp l _ (h.pick hT hp th)
/-- Two runs that are done have left the same. -/
theorem AInv.same (h : AInv T cl pl c0 c) (h' : AInv T cl pl c0 c') (d : doneP T cl c) (d' : doneP T cl c') : (∀ a, cellN c.cs a = cellN c'.cs a) ∧ ∀ i, i < T → ∀ j, c.σ i j = c'.σ i j := by
  have key : ∀ i, i < T → ∃ s, Tsim i c s ∧ Tsim i c' s := fun i hi => by
    obtain ⟨n, hn⟩ := h.sim i hi
    obtain ⟨n', hn'⟩ := h'.sim i hi
    refine ⟨_, hn, ?_⟩
    rw [titer_ends (n := n) (n' := n') (by rw [← hn.ix]; exact d i hi) (by rw [← hn'.ix]; exact d' i hi)]
    exact hn'
  refine ⟨fun a => ?_, fun i hi j => ?_⟩
  · by_cases e : ∃ i, i < T ∧ rng i a
    · obtain ⟨i, hi, ha⟩ := e
      obtain ⟨s, s1, s2⟩ := key i hi
      rw [s1.mem a ha, s2.mem a ha]
    · have ne : ∀ i, i < T → ¬ rng i a := fun i hi z => e ⟨i, hi, z⟩
      rw [h.out a ne, h'.out a ne]
  · obtain ⟨s, s1, s2⟩ := key i hi
    rw [s1.σ j, s2.σ j]
end
end Go.Proofs.Ytnhiodmigmmfgaa
/- Lists of plans that StepApart builds anew: what lies in memory while it builds them. -/
namespace Go.Proofs.Ytnhiodmigmmfgaa
open Go.RowKit Go.Shelf
set_option linter.unusedVariables false

def ownD (i : Nat) (d : DoP) : DoP := ⟨if d.kd = 5 then 4 else d.kd, 60 + 10 * i + d.ad % 10, d.a, d.b, d.vals⟩
def ownQ (i : Nat) (q : PlP) : PlP := ⟨q.none, q.L.map (ownD i)⟩
def ownLL (ll : List (List PlP)) (n : Nat) : List (List PlP) := (List.range n).map fun i => (lOf ll i).map (ownQ i)
theorem ownD_ok {i : Nat} (hi : i < 10) {d : DoP} (h : d.Ok) : (ownD i d).Ok := by
  obtain ⟨h1, h2, h3, h4, h5, h6⟩ := h
  refine ⟨?_, ?_, h3, h4, h5, h6⟩
  · show 0 ≤ (if d.kd = 5 then 4 else d.kd) ∧ (if d.kd = 5 then 4 else d.kd) < 256
    split <;> omega
  · show 60 + 10 * i + d.ad % 10 < _
    omega
theorem ownQ_own {i : Nat} (q : PlP) : OwnP i (ownQ i q) := fun d hd => by
  obtain ⟨e, _, rfl⟩ := List.mem_map.1 hd
  refine ⟨⟨?_, ?_⟩, ?_⟩
  · show 60 + 10 * i ≤ 60 + 10 * i + e.ad % 10; omega
  · show 60 + 10 * i + e.ad % 10 < 70 + 10 * i; omega
  · show (if e.kd = 5 then 4 else e.kd) ≠ 5
    split <;> omega
/-- A step with where its values lie. -/
structure DR where
  d : DoP
  vp : Option Addr
  vc : Nat
def DR.cells (z : DR) : List Value := [.int .u8 z.d.kd, .int .u64 (z.d.ad : Int), .int .u64 (z.d.a : Int), .int .u64 (z.d.b : Int), .slice z.vp z.d.vals.length z.vc]
def drRow (R : List DR) : List Value := R.flatMap DR.cells
structure DR.Ok (W : World) (z : DR) : Prop where
  ok : z.d.Ok
  rd : Reads W z.vp z.d.vals
  lt : ∀ ad, z.vp = some ad → z.d.vals ≠ [] → ad.block < W.heap.size
/-- A plan's steps, laid so far. -/
structure LRow (W wr : World) (N : Nat) (v : Value) (R : List DR) : Prop where
  row : wr.ownsRow N 33 5 v R.length (drRow R)
  ok : ∀ z ∈ R, z.Ok W
theorem LRow.kept {W wr wy : World} {N : Nat} {v : Value} {R : List DR} (h : LRow W wr N v R) (hk : ∀ g, v.ownBlock = some g → wy.heap[g]? = wr.heap[g]?) : LRow W wy N v R := ⟨rowB_kept h.row hk, h.ok⟩
theorem LRow.up {W wr : World} {N N' : Nat} {v : Value} {R : List DR} (h : LRow W wr N v R) (hN : N' ≤ N) : LRow W wr N' v R := ⟨row_up h.row hN, h.ok⟩
/-- Laid, they read as a plan's steps. -/
theorem LRow.dos {W wr : World} {N : Nat} {p : Option Addr} {c : Nat} {R : List DR} (h : LRow W wr N (.slice p R.length c) R) (hc : Chg (fun _ => False) W wr) : DosAt wr wr.heap.size p (R.map DR.d) := by
  intro i d hd
  rw [List.getElem?_map] at hd
  cases hz : R[i]? with
  | none => rw [hz] at hd; cases hd
  | some z =>
    rw [hz] at hd
    injection hd with hd
    subst hd
    have hi := (List.getElem?_eq_some_iff.1 hz).1
    have ho := h.ok z (List.mem_of_getElem? hz)
    obtain ⟨g, cap, hv⟩ := slice_pos (row_base h.row) (by omega)
    injection hv with hp _ _
    subst hp
    have cell : ∀ f u, f < 5 → z.cells[f]? = some u → wr.cell? ⟨g, i * 5 + f, none⟩ = some u := fun f u hf hu => by
      have e := World.ownsRow.cellAt (row_base h.row) (i * 5 + f) (by omega)
      rw [e]
      have e2 := rowOf_get DR.cells 5 (fun _ => rfl) R i f hf
      show (R.flatMap DR.cells)[i * 5 + f]? = some u
      rw [e2, hz]
      exact hu
    refine ⟨ho.ok, g, 0, z.vp, z.vc, rfl, row_lt (row_base h.row) g rfl, ?_, ?_, ?_, ?_, ?_, ?_, fun ad e hn => Nat.lt_of_lt_of_le (ho.lt ad e hn) hc.size⟩
    · have := cell 0 _ (by omega) rfl; simpa using this
    · have := cell 1 _ (by omega) rfl; simpa using this
    · have := cell 2 _ (by omega) rfl; simpa using this
    · have := cell 3 _ (by omega) rfl; simpa using this
    · have := cell 4 _ (by omega) rfl; simpa using this
    · exact reads_low (X := W) (B := W.heap.size) (fun k hk => hc.block k hk (fun x => x)) ho.rd ho.lt
/-- A plan with where its steps lie. -/
structure QR where
  none : Bool
  v : Value
  R : List DR
def QR.cells (z : QR) : List Value := [.bool z.none, z.v]
def qrRow (Q : List QR) : List Value := Q.flatMap QR.cells
def QR.pl (z : QR) : PlP := ⟨z.none, z.R.map DR.d⟩
/-- A thread's plans, laid so far. -/
structure PRow (W wr : World) (N : Nat) (v : Value) (Q : List QR) : Prop where
  row : wr.ownsRow N 28 2 v Q.length (qrRow Q)
  dos : ∀ z ∈ Q, LRow W wr 0 z.v z.R
theorem PRow.kept {W wr wy : World} {N : Nat} {v : Value} {Q : List QR} (h : PRow W wr N v Q) (hk : ∀ g, v.ownBlock = some g → wy.heap[g]? = wr.heap[g]?) (hd : ∀ z ∈ Q, ∀ g, z.v.ownBlock = some g → wy.heap[g]? = wr.heap[g]?) : PRow W wy N v Q := ⟨rowB_kept h.row hk, fun z hz => (h.dos z hz).kept (hd z hz)⟩
theorem PRow.chg {W wr wy : World} {N : Nat} {v : Value} {Q : List QR} (h : PRow W wr N v Q) (c : Chg (fun _ => False) wr wy) : PRow W wy N v Q := h.kept (fun g e => c.block g (h.row.lt g e).2 (fun x => x)) (fun z hz g e => c.block g ((h.dos z hz).row.lt g e).2 (fun x => x))
/-- One plan more. -/
theorem PRow.more {W wr wy : World} {N : Nat} {v v' : Value} {Q : List QR} {z : QR} {o : Obj} (h : PRow W wr N v Q) (hz : LRow W wr 0 z.v z.R) (r1 : wy.ownsRow N 28 2 v' (Q.length + 1) (qrRow Q ++ z.cells)) (r2 : (wr.alloc o).grownBy wy v.ownBlock) : PRow W wy N v' (Q ++ [z]) := by
  have c : Chg (fun k => v.ownBlock = some k) wr wy := ((Chg.refl (fun k => v.ownBlock = some k) wr).alloc o).grown r2 (fun k e _ => e)
  have kp : ∀ {u : Value} {R : List DR}, LRow W wr 0 u R → LRow W wy 0 u R := fun {u R} hu => hu.kept (fun g e => c.block g (hu.row.lt g e).2 (fun q => rows_apart hu.row (row_base h.row) (by decide) g e q))
  refine ⟨?_, fun y hy => ?_⟩
  · have e : qrRow (Q ++ [z]) = qrRow Q ++ z.cells := by simp [qrRow]
    rw [e, List.length_append]
    exact r1
  · rcases List.mem_append.1 hy with q | q
    · exact kp (h.dos y q)
    · obtain rfl := List.mem_singleton.1 q
      exact kp hz
/-- Laid, they read as a thread's plans. -/
theorem PRow.plans {W wr : World} {N : Nat} {p : Option Addr} {c : Nat} {Q : List QR} (h : PRow W wr N (.slice p Q.length c) Q) (hc : Chg (fun _ => False) W wr) : ∃ lp lc, PlansAt wr wr.heap.size p (Q.map QR.pl) lp lc := by
  have key : ∀ j : Nat, ∃ x : Option Addr × Nat, ∀ z, Q[j]? = some z → z.v = .slice x.1 z.R.length x.2 := fun j => by
    cases hz : Q[j]? with
    | none => exact ⟨(Option.none, 0), fun z e => by cases e⟩
    | some z =>
      obtain ⟨p', c', e⟩ := slice_of (h.dos z (List.mem_of_getElem? hz)).row
      exact ⟨(p', c'), fun y ey => by injection ey with ey; subst ey; exact e⟩
  refine ⟨fun j => (Classical.choose (key j)).1, fun j => (Classical.choose (key j)).2, fun i q hq => ?_⟩
  rw [List.getElem?_map] at hq
  cases hz : Q[i]? with
  | none => rw [hz] at hq; cases hq
  | some z =>
    rw [hz] at hq
    injection hq with hq
    subst hq
    have hs := Classical.choose_spec (key i) z hz
    have hi := (List.getElem?_eq_some_iff.1 hz).1
    have hd := h.dos z (List.mem_of_getElem? hz)
    obtain ⟨g, cap, hv⟩ := slice_pos (row_base h.row) (by omega)
    injection hv with hp _ _
    subst hp
    have cell : ∀ f u, f < 2 → z.cells[f]? = some u → wr.cell? ⟨g, i * 2 + f, none⟩ = some u := fun f u hf hu => by
      have e := World.ownsRow.cellAt (row_base h.row) (i * 2 + f) (by omega)
      rw [e]
      have e2 := rowOf_get QR.cells 2 (fun _ => rfl) Q i f hf
      show (Q.flatMap QR.cells)[i * 2 + f]? = some u
      rw [e2, hz]
      exact hu
    refine ⟨⟨g, 0, rfl, row_lt (row_base h.row) g rfl, ?_, ?_⟩, ?_⟩
    · have := cell 0 _ (by omega) rfl; simpa [QR.pl] using this
    · have := cell 1 _ (by omega) rfl
      rw [hs] at this
      simpa [QR.pl] using this
    · rw [hs] at hd
      exact hd.dos hc
/-- A thread with where its plans lie. -/
structure TR where
  v : Value
  Q : List QR
def TR.pls (t : TR) : List PlP := t.Q.map QR.pl
structure ORow (W wr : World) (N : Nat) (v : Value) (A : List TR) : Prop where
  row : wr.ownsRow N 25 1 v A.length (A.map TR.v)
  pls : ∀ t ∈ A, PRow W wr 0 t.v t.Q
theorem ORow.chg {W wr wy : World} {N : Nat} {v : Value} {A : List TR} (h : ORow W wr N v A) (c : Chg (fun _ => False) wr wy) : ORow W wy N v A := ⟨rowB_kept h.row (fun g e => c.block g (h.row.lt g e).2 (fun x => x)), fun t ht => (h.pls t ht).chg c⟩
theorem ORow.more {W wr wy : World} {N : Nat} {v v' : Value} {A : List TR} {t : TR} {o : Obj} (h : ORow W wr N v A) (ht : PRow W wr 0 t.v t.Q) (r1 : wy.ownsRow N 25 1 v' (A.length + 1) (A.map TR.v ++ [t.v])) (r2 : (wr.alloc o).grownBy wy v.ownBlock) : ORow W wy N v' (A ++ [t]) := by
  have c : Chg (fun k => v.ownBlock = some k) wr wy := ((Chg.refl (fun k => v.ownBlock = some k) wr).alloc o).grown r2 (fun k e _ => e)
  have kp : ∀ {u : Value} {Q : List QR}, PRow W wr 0 u Q → PRow W wy 0 u Q := fun {u Q} hu => hu.kept (fun g e => c.block g (hu.row.lt g e).2 (fun q => rows_apart hu.row (row_base h.row) (by decide) g e q)) (fun z hz g e => c.block g ((hu.dos z hz).row.lt g e).2 (fun q => rows_apart (hu.dos z hz).row (row_base h.row) (by decide) g e q))
  refine ⟨by rw [List.map_append, List.length_append]; exact r1, fun y hy => ?_⟩
  rcases List.mem_append.1 hy with q | q
  · exact kp (h.pls y q)
  · obtain rfl := List.mem_singleton.1 q
    exact kp ht
/-- Laid, they are threads of plans. -/
theorem ORow.ths {W wr : World} {N : Nat} {p : Option Addr} {c : Nat} {A : List TR} (h : ORow W wr N (.slice p A.length c) A) (hc : Chg (fun _ => False) W wr) : ∃ ap ac lp lc, ThsAt wr wr.heap.size p (A.map TR.pls) ap ac lp lc := by
  have key : ∀ j : Nat, ∃ x : Option Addr × Nat × (Nat → Option Addr) × (Nat → Nat), ∀ t, A[j]? = some t → t.v = .slice x.1 t.Q.length x.2.1 ∧ PlansAt wr wr.heap.size x.1 (t.Q.map QR.pl) x.2.2.1 x.2.2.2 := fun j => by
    cases hz : A[j]? with
    | none => exact ⟨(Option.none, 0, fun _ => Option.none, fun _ => 0), fun z e => by cases e⟩
    | some t =>
      have hp := h.pls t (List.mem_of_getElem? hz)
      obtain ⟨p', c', e⟩ := slice_of hp.row
      rw [e] at hp
      obtain ⟨lp, lc, hpl⟩ := hp.plans hc
      exact ⟨(p', c', lp, lc), fun y ey => by injection ey with ey; subst ey; exact ⟨e, hpl⟩⟩
  refine ⟨fun j => (Classical.choose (key j)).1, fun j => (Classical.choose (key j)).2.1, fun j => (Classical.choose (key j)).2.2.1, fun j => (Classical.choose (key j)).2.2.2, fun i l hl => ?_⟩
  rw [List.getElem?_map] at hl
  cases hz : A[i]? with
  | none => rw [hz] at hl; cases hl
  | some t =>
    rw [hz] at hl
    injection hl with hl
    subst hl
    obtain ⟨s1, s2⟩ := Classical.choose_spec (key i) t hz
    have hi := (List.getElem?_eq_some_iff.1 hz).1
    obtain ⟨g, cap, hv⟩ := slice_pos (row_base h.row) (by omega)
    injection hv with hp _ _
    subst hp
    refine ⟨⟨g, 0, rfl, row_lt (row_base h.row) g rfl, ?_⟩, s2⟩
    have e := World.ownsRow.cellAt (row_base h.row) i (by omega)
    rw [Nat.zero_add, e, List.getElem?_map, hz]
    show some t.v = _
    rw [s1]
    simp [TR.pls]
end Go.Proofs.Ytnhiodmigmmfgaa
/- Two runs that take turns (for StepApart). -/
namespace Go.Proofs.Ytnhiodmigmmfgaa
open Go.RowKit Go.Shelf
set_option linter.unusedVariables false

section
variable {P : Type} {Lo : Nat} {W0 : World} {κ : KindL P Lo W0} {most m b T : Nat} {cl : Nat → Nat} {vb : Nat → Nat} {pv : Nat → Nat → Value} {c : Cfg P} {W Z X Y : World} {S : Nat → Prop} {r : Nat}
theorem GR.keepLo (h : GR κ most m b T cl vb pv c W Z X S r) (k : Nat) (hk : S k) : Lo ≤ k := by
  obtain ⟨G, K, vw, tv, ev, av, ths, h⟩ := h
  obtain ⟨F, D, md, tg, g⟩ := h.ma
  apply Nat.le_of_not_lt
  intro z
  exact (h.keep k hk).2.2.2 (g.lowK k z)
theorem GR.loW (h : GR κ most m b T cl vb pv c W Z X S r) : Lo ≤ W.heap.size := by
  obtain ⟨G, K, vw, tv, ev, av, ths, h⟩ := h
  exact h.lo
end
/-- Two runs on memories of their own: F is the first one's side; each keeps the other's side, and what the law keeps of its own (M). -/
structure GP {Lo : Nat} {W0 : World} (κ : KindL PS Lo W0) (T : Nat) (cl : Nat → Nat) (m1 b1 : Nat) (vb1 : Nat → Nat) (pv1 : Nat → Nat → Value) (r1 m2 b2 : Nat) (vb2 : Nat → Nat) (pv2 : Nat → Nat → Value) (r2 : Nat) (M1 M2 : Nat → Prop) (c1 c2 : Cfg PS) (V0 X : World) (F : Nat → Prop) : Prop where
  g1 : GR κ 200 m1 b1 T cl vb1 pv1 c1 V0 X X (fun k => (V0.heap.size ≤ k ∧ k < X.heap.size ∧ ¬ F k) ∨ M1 k) r1
  g2 : GR κ 200 m2 b2 T cl vb2 pv2 c2 V0 X X (fun k => (V0.heap.size ≤ k ∧ k < X.heap.size ∧ F k) ∨ M2 k) r2
section
variable {Lo : Nat} {W0 : World} {κ : KindL PS Lo W0} {T : Nat} {cl : Nat → Nat} {m1 b1 : Nat} {vb1 : Nat → Nat} {pv1 : Nat → Nat → Value} {r1 m2 b2 : Nat} {vb2 : Nat → Nat} {pv2 : Nat → Nat → Value} {r2 : Nat} {M1 M2 : Nat → Prop} {c1 c2 c' : Cfg PS} {V0 X Y : World} {F : Nat → Prop}
/-- The first one went on. -/
theorem GP.first (h : GP κ T cl m1 b1 vb1 pv1 r1 m2 b2 vb2 pv2 r2 M1 M2 c1 c2 V0 X F) (g : GR κ 200 m1 b1 T cl vb1 pv1 c' V0 X Y (fun k => (V0.heap.size ≤ k ∧ k < X.heap.size ∧ ¬ F k) ∨ M1 k) r1) : GP κ T cl m1 b1 vb1 pv1 r1 m2 b2 vb2 pv2 r2 M1 M2 c' c2 V0 Y (fun k => F k ∨ X.heap.size ≤ k) := by
  have hs := g.zsize
  have lo := g.loW
  refine ⟨g.rebase (Chg.refl _ _) (fun k e => .inl ?_), h.g2.shift (Nat.le_refl _) lo g.chgW hs (fun k => V0.heap.size ≤ k ∧ k < X.heap.size ∧ F k) (fun k e => .inl e) (fun k a1 a2 a3 => ?_) (fun k e => ?_)⟩
  · rcases e with ⟨z1, z2, z3⟩ | z
    · exact .inl ⟨z1, Nat.lt_of_not_le (fun q => z3 (.inr q)), fun q => z3 (.inl q)⟩
    · exact .inr z
  · rcases a3 with z | z
    · exact (g.chgW.block k (by omega) (fun x => x)).trans (h.g1.chgW.block k (by omega) (fun x => x)).symm
    · exact (g.kept k (.inl ⟨z, a1, fun q => a2 ⟨z, a1, q⟩⟩)).1
  · rcases e with ⟨z1, z2, z3⟩ | z
    · refine ⟨by omega, z2, ?_⟩
      by_cases q : X.heap.size ≤ k
      · exact .inr (.inl q)
      · exact .inr (.inr (.inl ⟨z1, by omega, z3.resolve_right q⟩))
    · have := h.g2.keepLo k (.inr z)
      have := (h.g2.kept k (.inr z)).2
      exact ⟨by omega, by omega, .inr (.inr (.inr z))⟩
/-- The second one went on. -/
theorem GP.second (h : GP κ T cl m1 b1 vb1 pv1 r1 m2 b2 vb2 pv2 r2 M1 M2 c1 c2 V0 X F) (g : GR κ 200 m2 b2 T cl vb2 pv2 c' V0 X Y (fun k => (V0.heap.size ≤ k ∧ k < X.heap.size ∧ F k) ∨ M2 k) r2) : GP κ T cl m1 b1 vb1 pv1 r1 m2 b2 vb2 pv2 r2 M1 M2 c1 c' V0 Y (fun k => F k ∧ k < X.heap.size) := by
  have hs := g.zsize
  have lo := g.loW
  refine ⟨h.g1.shift (Nat.le_refl _) lo g.chgW hs (fun k => V0.heap.size ≤ k ∧ k < X.heap.size ∧ ¬ F k) (fun k e => .inl e) (fun k a1 a2 a3 => ?_) (fun k e => ?_), g.rebase (Chg.refl _ _) (fun k e => .inl ?_)⟩
  · rcases a3 with z | z
    · exact (g.chgW.block k (by omega) (fun x => x)).trans (h.g2.chgW.block k (by omega) (fun x => x)).symm
    · exact (g.kept k (.inl ⟨z, a1, Classical.byContradiction (fun q => a2 ⟨z, a1, q⟩)⟩)).1
  · rcases e with ⟨z1, z2, z3⟩ | z
    · refine ⟨by omega, z2, ?_⟩
      by_cases q : X.heap.size ≤ k
      · exact .inr (.inl q)
      · exact .inr (.inr (.inl ⟨z1, by omega, fun f => z3 ⟨f, by omega⟩⟩))
    · have := h.g1.keepLo k (.inr z)
      have := (h.g1.kept k (.inr z)).2
      exact ⟨by omega, by omega, .inr (.inr (.inr z))⟩
  · rcases e with ⟨z1, z2, z3⟩ | z
    · exact .inl ⟨z1, z3.2, z3.1⟩
    · exact .inr z
/-- Nothing that is there changed. -/
theorem GP.quiet (h : GP κ T cl m1 b1 vb1 pv1 r1 m2 b2 vb2 pv2 r2 M1 M2 c1 c2 V0 X F) (q : Chg (fun _ => False) X Y) : GP κ T cl m1 b1 vb1 pv1 r1 m2 b2 vb2 pv2 r2 M1 M2 c1 c2 V0 Y (fun k => F k ∨ X.heap.size ≤ k) := h.first (h.g1.quiet q)
end
end Go.Proofs.Ytnhiodmigmmfgaa
