/- What must be whatever is asked (package step). -/
import Derived.Test.YtphlhpnhieomiaaSLive0
namespace Go.Proofs.Ytphlhpnhieomiaa
open Go.RowKit Go.Shelf

theorem row_of {W : World} {g n s : Nat} {cs : Array Value} {e : TypeId} (h : W.heap[g]? = some (.cells cs e (0, 0))) (hs : cs.size = n * s) (hn : n ≤ 1099511627776) : W.ownsRow 0 e s (.slice (some ⟨g, 0, none⟩) n n) n cs.toList :=
  ⟨by simpa using hs, .inr ⟨g, n, cs, rfl, Nat.zero_le _, h, Nat.le_refl _, by unfold maxLen; omega, hs, by rw [List.take_of_length_le]; simp; omega⟩⟩

def loadI (p : Nat) : Value := .iface 85 (.pointer (some ⟨p, 0, none⟩))
def twoL (p0 s0 p1 s1 : Nat) : List (Value × List Value) := [(.slice (some ⟨s0, 0, none⟩) 1 1, [loadI p0]), (.slice (some ⟨s1, 0, none⟩) 1 1, [loadI p1])]
theorem twoL_ok (p0 s0 p1 s1 : Nat) : tooLongB (twoL p0 s0 p1 s1) = false := by simp [tooLongB, twoL]

theorem two_of {α : Type} {l : List α} (h : l.length = 2) : ∃ a b, l = [a, b] := by
  match l, h with
  | [a, b], _ => exact ⟨a, b, rfl⟩

/-- A runner of two Loads that has had no pick. -/
theorem live_start {W6 W7 : World} {G : Nat → Prop} {r m b p0 s0 p1 s1 : Nat} {tv : Value} {ths : List Thr} {vbs : List Nat} (hm : IsMem W6 m b) (hb : Bank W6 (fun k => k = b) b 128 1 [] []) (q0 : IsLoad W6 p0 5 0 false) (q1 : IsLoad W6 p1 6 0 false) (h : Made W6 W7 G r m b tv (twoL p0 s0 p1 s1) ths vbs 2) (hl : ths.length = 2) (hd : m ≠ b ∧ p0 ≠ b ∧ p1 ≠ b ∧ m ≠ p0 ∧ m ≠ p1 ∧ p0 ≠ p1) :
    ∃ v0 v1 c0 c1 g c, vbs = [v0, v1] ∧ ths = [⟨c0, [loadI p0], 0, false⟩, ⟨c1, [loadI p1], 0, false⟩] ∧ tv = .slice (some ⟨g, 0, none⟩) 2 c ∧ LS m b v0 v1 p0 p1 0 false false W7 (inK (fun k => k = b) m v0 v1 p0 p1) ∧ (∀ k, G k → ¬ inK (fun k => k = b) m v0 v1 p0 p1 k) := by
  obtain ⟨v0, v1, rfl⟩ := two_of h.vl
  obtain ⟨t0, t1, rfl⟩ := two_of hl
  obtain ⟨g, c, htv⟩ := slice_pos h.run.tr (by simp)
  obtain ⟨y0, hy0, e0, e1, e2⟩ := h.thr 0 t0 rfl
  obtain ⟨y1, hy1, f0, f1, f2⟩ := h.thr 1 t1 rfl
  simp [twoL] at hy0 hy1
  subst hy0 hy1
  obtain ⟨a0, a1, a2⟩ := h.views 0 v0 rfl
  obtain ⟨b0, b1, b2⟩ := h.views 1 v1 rfl
  have hvv := h.apart 0 1 v0 v1 (by omega) rfl rfl
  have lm := hm.lt
  have l0 := lt_of q0
  have l1 := lt_of q1
  have lb : b < W6.heap.size := by obtain ⟨_, _, B⟩ := hb; exact B.lt b rfl
  refine ⟨v0, v1, t0.cv, t1.cv, g, c, rfl, ?_, by simpa using htv, ⟨fun k => k = b, [], 0, 0, ⟨hb.chg h.chg (fun _ _ h => h), hm.chg h.chg (fun h => h), a0, b0, q0.chg h.chg (fun h => h), q1.chg h.chg (fun h => h), by omega, by omega, by omega, by omega, by omega, by omega, by omega⟩, rfl, rfl⟩, fun k hk e => ?_⟩
  · cases t0
    cases t1
    simp_all
  · have hW := h.inG k hk
    rcases e with e | e | e | e | e | e
    · omega
    · omega
    · exact a2 (by rw [← e]; exact hk)
    · exact b2 (by rw [← e]; exact hk)
    · omega
    · omega

theorem live_lists (W1 W6 : World) (hW : W6 = (((((W1.alloc (.cells #[.int .u64 5, .int .u64 0, .bool false] 126)).alloc (.cells #[.iface 85 (.pointer (some ⟨W1.heap.size, 0, none⟩))] 40)).alloc (.cells #[.int .u64 6, .int .u64 0, .bool false] 126)).alloc (.cells #[.iface 85 (.pointer (some ⟨W1.heap.size + 1 + 1, 0, none⟩))] 40)).alloc (.cells #[.slice (some ⟨W1.heap.size + 1, 0, none⟩) 1 1, .slice (some ⟨W1.heap.size + 1 + 1 + 1, 0, none⟩) 1 1] 38))) :
    Chg (fun _ => False) W1 W6 ∧ IsLoad W6 W1.heap.size 5 0 false ∧ IsLoad W6 (W1.heap.size + 1 + 1) 6 0 false ∧ Lists W6 (.slice (some ⟨W1.heap.size + 1 + 1 + 1 + 1, 0, none⟩) 2 2) (twoL W1.heap.size (W1.heap.size + 1) (W1.heap.size + 1 + 1) (W1.heap.size + 1 + 1 + 1)) := by
  obtain ⟨a1, ha1⟩ : ∃ a1, a1 = W1.alloc (.cells #[.int .u64 5, .int .u64 0, .bool false] 126) := ⟨_, rfl⟩
  obtain ⟨a2, ha2⟩ : ∃ a2, a2 = a1.alloc (.cells #[.iface 85 (.pointer (some ⟨W1.heap.size, 0, none⟩))] 40) := ⟨_, rfl⟩
  obtain ⟨a3, ha3⟩ : ∃ a3, a3 = a2.alloc (.cells #[.int .u64 6, .int .u64 0, .bool false] 126) := ⟨_, rfl⟩
  obtain ⟨a4, ha4⟩ : ∃ a4, a4 = a3.alloc (.cells #[.iface 85 (.pointer (some ⟨W1.heap.size + 1 + 1, 0, none⟩))] 40) := ⟨_, rfl⟩
  rw [← ha1, ← ha2, ← ha3, ← ha4] at hW
  have z1 : a1.heap.size = W1.heap.size + 1 := by rw [ha1]; simp
  have z2 : a2.heap.size = W1.heap.size + 1 + 1 := by rw [ha2]; simp [z1]
  have z3 : a3.heap.size = W1.heap.size + 1 + 1 + 1 := by rw [ha3]; simp [z2]
  have z4 : a4.heap.size = W1.heap.size + 1 + 1 + 1 + 1 := by rw [ha4]; simp [z3]
  have g1 : a1.heap[W1.heap.size]? = some (.cells #[.int .u64 5, .int .u64 0, .bool false] 126 (0, 0)) := by rw [ha1]; exact heap_alloc_new _ _
  have g2 : a2.heap[W1.heap.size + 1]? = some (.cells #[.iface 85 (.pointer (some ⟨W1.heap.size, 0, none⟩))] 40 (0, 0)) := by rw [ha2, ← z1]; exact heap_alloc_new _ _
  have g3 : a3.heap[W1.heap.size + 1 + 1]? = some (.cells #[.int .u64 6, .int .u64 0, .bool false] 126 (0, 0)) := by rw [ha3, ← z2]; exact heap_alloc_new _ _
  have g4 : a4.heap[W1.heap.size + 1 + 1 + 1]? = some (.cells #[.iface 85 (.pointer (some ⟨W1.heap.size + 1 + 1, 0, none⟩))] 40 (0, 0)) := by rw [ha4, ← z3]; exact heap_alloc_new _ _
  have g5 : W6.heap[W1.heap.size + 1 + 1 + 1 + 1]? = some (.cells #[.slice (some ⟨W1.heap.size + 1, 0, none⟩) 1 1, .slice (some ⟨W1.heap.size + 1 + 1 + 1, 0, none⟩) 1 1] 38 (0, 0)) := by rw [hW, ← z4]; exact heap_alloc_new _ _
  have c6 : Chg (fun _ => False) a4 W6 := by rw [hW]; exact (Chg.refl _ _).alloc _
  have c4 : Chg (fun _ => False) a3 W6 := by rw [ha4] at c6; exact ((Chg.refl _ a3).alloc _).trans c6 (fun _ _ x => x) (fun _ _ x => x)
  have c3 : Chg (fun _ => False) a2 W6 := by rw [ha3] at c4; exact ((Chg.refl _ a2).alloc _).trans c4 (fun _ _ x => x) (fun _ _ x => x)
  have c2 : Chg (fun _ => False) a1 W6 := by rw [ha2] at c3; exact ((Chg.refl _ a1).alloc _).trans c3 (fun _ _ x => x) (fun _ _ x => x)
  have c1 : Chg (fun _ => False) W1 W6 := by rw [ha1] at c2; exact ((Chg.refl _ W1).alloc _).trans c2 (fun _ _ x => x) (fun _ _ x => x)
  have h2 := (c3.block _ (by omega) (fun h => h)).trans g2
  have h4 := (c6.block _ (by omega) (fun h => h)).trans g4
  refine ⟨c1, (c2.block _ (by omega) (fun h => h)).trans g1, (c4.block _ (by omega) (fun h => h)).trans g3, ⟨?_, ?_, ?_⟩⟩
  · exact row_of (n := 2) (s := 1) g5 rfl (by omega)
  · intro x hx
    simp [twoL] at hx
    rcases hx with rfl | rfl
    · exact row_of (n := 1) (s := 1) h2 rfl (by omega)
    · exact row_of (n := 1) (s := 1) h4 rfl (by omega)
  · intro x hx u hu
    simp [twoL] at hx
    rcases hx with rfl | rfl
    · simp at hu
      subst hu
      rfl
    · simp at hu
      subst hu
      rfl

set_option maxRecDepth 100000 in
set_option maxHeartbeats 8000000 in
theorem s_live (W : World) : Calls Try.prog 6 #[] W fun e W' => e = .returned (.bool true) ∧ Chg (fun _ => False) W W' := by
  go_enter Try.func6, Try.ntmps6
  go_wp2_with fail
  refine (m_new 128 W (by omega)).mono ?_
  rintro e W1 ⟨rfl, M1, B1, C1, S1⟩
  have HM1 := keepH M1
  have HB1 := keepH B1
  have HS1 := keepH S1
  have HC1 := keepH C1
  clear M1 B1 S1 C1
  go_wp2_with fail
  refine (load_new 5 _).mono ?_
  rintro e w ⟨rfl, rfl⟩
  go_wp2_with fail
  refine (load_new 6 _).mono ?_
  rintro e w ⟨rfl, rfl⟩
  go_wp2_with fail
  obtain ⟨W6, hW6⟩ : ∃ W6, W6 = (((((W1.alloc (.cells #[.int .u64 5, .int .u64 0, .bool false] 126)).alloc (.cells #[.iface 85 (.pointer (some ⟨W1.heap.size, 0, none⟩))] 40)).alloc (.cells #[.int .u64 6, .int .u64 0, .bool false] 126)).alloc (.cells #[.iface 85 (.pointer (some ⟨W1.heap.size + 1 + 1, 0, none⟩))] 40)).alloc (.cells #[.slice (some ⟨W1.heap.size + 1, 0, none⟩) 1 1, .slice (some ⟨W1.heap.size + 1 + 1 + 1, 0, none⟩) 1 1] 38)) := ⟨_, rfl⟩
  rw [← hW6]
  obtain ⟨cL, l0, l1, LL⟩ := live_lists W1 W6 hW6
  have HL := keepH LL
  have HC6 := keepH (HC1.out.trans cL (H := fun _ => False) (fun _ _ x => x) (fun _ _ x => x))
  have HM6 := keepH (HM1.out.chg cL (fun h => h))
  have HB6 := keepH (HB1.out.chg cL (fun _ _ h => h))
  have Hl0 := keepH l0
  have Hl1 := keepH l1
  obtain ⟨n, hn⟩ : ∃ n, n = W1.heap.size := ⟨_, rfl⟩
  rw [← hn] at HL Hl0 Hl1 ⊢
  have HN := keepH hn
  clear hW6 cL l0 l1 LL hn
  refine (s_new (W.heap.size + 1) W.heap.size _ _ W6 HM6.out HL.out (twoL_ok _ _ _ _)).mono ?_
  rintro e W7 ⟨r, G, tv, ths, vbs, rfl, MD, hl⟩
  obtain ⟨v0, v1, c0, c1, g, c, rfl, rfl, rfl, LS7, D7⟩ := live_start HM6.out HB6.out Hl0.out Hl1.out MD hl (by have := HS1.out; have := HN.out; omega)
  have HR7 := keepH MD.run
  have HC7 := keepH (HC6.out.trans MD.chg (H := fun _ => False) (fun _ _ x => x) (fun _ _ x => x))
  have HLS7 := keepH LS7
  have HD7 := keepH D7
  have hGW : Hid (∀ k, G k → W.heap.size ≤ k) := fun k e => by have := MD.inG k e; have := HC6.out.size; omega
  have hKW : Hid (∀ k, inK (fun k => k = W.heap.size) (W.heap.size + 1) v0 v1 n (n + 1 + 1) k → W.heap.size ≤ k) := fun k e => by
    have h1 := (MD.views 0 v0 rfl).2.1
    have h2 := (MD.views 1 v1 rfl).2.1
    have h3 := HN.out
    have h4 := HS1.out
    have h5 := HC6.out.size
    rcases e with e | e | e | e | e | e <;> omega
  clear LS7 D7 MD hl HM6 HB6 Hl0 Hl1 HL HM1 HB1 HC1
  go_wp2_with fail
  refine (r_pick_in (vb := v1) (ths := [⟨c0, [loadI n], 0, false⟩, ⟨c1, [loadI (n + 1 + 1)], 0, false⟩]) (LS (W.heap.size + 1) W.heap.size v0 v1 n (n + 1 + 1) 0 false false) (fun d X K => d = true ∧ LS (W.heap.size + 1) W.heap.size v0 v1 n (n + 1 + 1) 1 false true X K) 0 (fun _ => 1) 1 ⟨c1, [loadI (n + 1 + 1)], 0, false⟩ (loadI (n + 1 + 1)) W7 HR7.out rfl (by simp) rfl rfl HLS7.out HD7.out
    (fun X Y K h hs hk => LS.keep h hs hk) (fun X K h => LS.lt h) (fun X K h => LS.mem h) (fun d X Y K h hs hk => ⟨h.1, LS.keep h.2 hs hk⟩) (fun d X K h => LS.lt h.2) (fun d X K h => LS.mem h.2)
    (fun X K h => ls_step1 X K h (by omega)) (by omega) (by simp) (by omega) (fun _ => by omega)).mono ?_
  rintro e W8 ⟨d, G8, K8, ev8, av8, rfl, R8, ⟨rfl, LS8⟩, D8, GG8⟩
  have HR8 := keepH R8
  have HLS8 := keepH LS8
  have HD8 := keepH D8
  have HG8 := keepH GG8
  clear R8 LS8 D8 GG8 HR7 HLS7 HD7
  go_wp2_with fail
  refine (r_pick_out 7 W8 HR8.out (.inr (by simp)) (by omega)).mono ?_
  rintro e W9 ⟨rfl, R9, GG9⟩
  have HR9 := keepH R9
  have HG9 := keepH GG9
  clear R9 GG9 HR8
  go_wp2_with fail
  refine (r_pick_done (ths := [⟨c0, [loadI n], 0, false⟩, pickThr ⟨c1, [loadI (n + 1 + 1)], 0, false⟩ true]) 1 (pickThr ⟨c1, [loadI (n + 1 + 1)], 0, false⟩ true) W9 HR9.out rfl (by simp [pickThr]) (by omega)).mono ?_
  rintro e W10 ⟨rfl, R10, GG10⟩
  have HR10 := keepH R10
  have HG10 := keepH GG10
  clear R10 GG10 HR9
  go_wp2_with fail
  refine (r_done W10 HR10.out).mono ?_
  rintro e w ⟨rfl, q, rfl⟩
  have t1 : allDone [⟨c0, [loadI n], 0, false⟩, pickThr ⟨c1, [loadI (n + 1 + 1)], 0, false⟩ true] = false := rfl
  have LS10 : Hid (LS (W.heap.size + 1) W.heap.size v0 v1 n (n + 1 + 1) 1 false true (W10.drewN q) K8) := (HLS8.out.keep HG9.out.chg.size (fun k hk => HG9.out.chg.block k (HLS8.out.lt k hk) (fun e => HD8.out k e hk))).keep (Nat.le_trans HG10.out.chg.size (Nat.le_refl _)) (fun k hk => HG10.out.chg.block k (Nat.lt_of_lt_of_le (HLS8.out.lt k hk) HG9.out.chg.size) (fun e => HD8.out k e hk))
  have HR11 := keepH (HR10.out.kept (W' := W10.drewN q) (Nat.le_refl _) (fun _ _ => rfl))
  clear HR10
  go_wp2_with fail
  refine (r_pick_in (vb := v0) (ths := [⟨c0, [loadI n], 0, false⟩, pickThr ⟨c1, [loadI (n + 1 + 1)], 0, false⟩ true]) (LS (W.heap.size + 1) W.heap.size v0 v1 n (n + 1 + 1) 1 false true) (fun d X K => d = true ∧ LS (W.heap.size + 1) W.heap.size v0 v1 n (n + 1 + 1) 2 true true X K) 1 (fun _ => 2) 0 ⟨c0, [loadI n], 0, false⟩ (loadI n) (W10.drewN q) HR11.out rfl (by simp) rfl rfl LS10.out HD8.out
    (fun X Y K h hs hk => LS.keep h hs hk) (fun X K h => LS.lt h) (fun X K h => LS.mem h) (fun d X Y K h hs hk => ⟨h.1, LS.keep h.2 hs hk⟩) (fun d X K h => LS.lt h.2) (fun d X K h => LS.mem h.2)
    (fun X K h => ls_step0 X K h (by omega)) (by omega) (by simp [pickEvs]) (by omega) (fun _ => by omega)).mono ?_
  rintro e W12 ⟨d, G12, K12, ev12, av12, rfl, R12, ⟨rfl, LS12⟩, D12, GG12⟩
  have HR12 := keepH R12
  have HLS12 := keepH LS12
  have HC12 : Hid (Chg (fun _ => False) W W12) := by
    have a1 := HC7.out.trans HG8.out.chg (H := fun _ => False) (fun _ _ x => x) (fun k hk e => by rcases e with e | e; have := hGW.out k e; omega; have := hKW.out k e; omega)
    have n8 : ∀ k, G8 k ∨ K8 k → W.heap.size ≤ k := fun k e => (HG8.out.new k e).elim (fun e => e.elim (hGW.out k) (hKW.out k)) (fun e => Nat.le_trans HC7.out.size e)
    have a2 := a1.trans HG9.out.chg (H := fun _ => False) (fun _ _ x => x) (fun k hk e => by have := n8 k (.inl e); omega)
    have a3 := a2.trans HG10.out.chg (H := fun _ => False) (fun _ _ x => x) (fun k hk e => by have := n8 k (.inl e); omega)
    have a4 := a3.trans (Goes.drewN W10 (fun _ => False) q).chg (H := fun _ => False) (fun _ _ x => x) (fun _ _ x => x)
    exact a4.trans GG12.chg (fun _ _ x => x) (fun k hk e => by have := n8 k e; omega)
  clear R12 LS12 D12 GG12 HR11 LS10 HG8 HG9 HG10 HC7
  go_wp2_with fail
  refine (r_done W12 HR12.out).mono ?_
  rintro e w ⟨rfl, q2, rfl⟩
  have t2 : allDone [pickThr ⟨c0, [loadI n], 0, false⟩ true, pickThr ⟨c1, [loadI (n + 1 + 1)], 0, false⟩ true] = true := rfl
  have HR13 := keepH (HR12.out.kept (W' := W12.drewN q2) (Nat.le_refl _) (fun _ _ => rfl))
  go_wp2_with fail
  refine (r_steps _ HR13.out).mono ?_
  rintro e w ⟨rfl, rfl⟩
  obtain ⟨evs, ats, hel, hal, ev13, av13, G13, HRx⟩ : ∃ (evs : List Ev) (ats : List Int), evs.length = 4 ∧ ats.length = 2 ∧ ∃ ev av G, Hid (RunAt (W12.drewN q2) G r (W.heap.size + 1) (vwOf [v0, v1]) (.slice (some ⟨g, 0, none⟩) 2 c) ev av [pickThr ⟨c0, [loadI n], 0, false⟩ true, pickThr ⟨c1, [loadI (n + 1 + 1)], 0, false⟩ true] 4 evs ats) := ⟨_, _, rfl, rfl, _, _, _, HR13.out⟩
  clear HR12 HR13
  go_wp2_with fail
  refine (r_events _ HRx.out (by omega)).mono ?_
  rintro e W14 ⟨p14, c14, rfl, R14, C14, B14⟩
  have HR14 := keepH (HRx.out.chg C14 (fun _ _ h => h))
  have LS14 := keepH ((HLS12.out.keep (Y := W12.drewN q2) (Nat.le_refl _) (fun _ _ => rfl)).keep C14.size (fun k hk => C14.block k (HLS12.out.lt k hk) (fun h => h)))
  have HC14 := keepH ((HC12.out.trans (Goes.drewN W12 (fun _ => False) q2).chg (H := fun _ => False) (fun _ _ x => x) (fun _ _ x => x)).trans C14 (H := fun _ => False) (fun _ _ x => x) (fun _ _ x => x))
  clear R14 C14 B14 HRx
  go_wp2_with fail
  obtain ⟨b', F', most', next', cs', l', hm', hb', hll', _, _⟩ := LS14.out.mem
  have he2 : (extN ats l'.length (-1)).length = 2 := by rw [extN_length, hal, hll']; rfl
  refine (r_at _ HR14.out hm' hb' (by omega) (by omega)).mono ?_
  rintro e W15 ⟨p15, c15, rfl, R15, C15, B15⟩
  have HC15 := keepH (HC14.out.trans C15 (H := fun _ => False) (fun _ _ x => x) (fun _ _ x => x))
  clear R15 C15 B15 hm' hb' hll'
  go_wp2_with fail
  go_ret
  exact ⟨by simp, HC15.out⟩
end Go.Proofs.Ytphlhpnhieomiaa
