/- The document's Words. -/
import Derived.Test.YtfohpbpekdcneaaDoorHtn
namespace Go.Proofs.YtfohpbpekdcneaaDoor
open Go.RowKit Go.Shelf
set_option linter.unusedVariables false

def frontL (ls : List (List UInt8)) : List UInt8 := (ls.map (fun x => x ++ [32])).flatten
theorem frontL_snoc (ls : List (List UInt8)) (r : List UInt8) : frontL (ls ++ [r]) = frontL ls ++ (r ++ [32]) := by simp [frontL]
theorem frontL_cons (ls : List (List UInt8)) (r : List UInt8) : frontL (r :: ls) = r ++ 32 :: frontL ls := by simp [frontL]
def WdR (t : List UInt8) (i : Nat) (fs : List (List UInt8)) (r : List UInt8) : Prop := t.take i = frontL fs ++ r ∧ noB 32 r ∧ (∀ x ∈ fs, noB 32 x)
theorem WdR.no {t : List UInt8} {i : Nat} {fs : List (List UInt8)} {r : List UInt8} (h : WdR t i fs r) (hi : i < t.length) (hb : ¬ t[i]? = some 32) : WdR t (i + 1) fs (r ++ [t[i]]) := by
  obtain ⟨e, hr, hx⟩ := h
  refine ⟨?_, hr.append ?_, hx⟩
  · rw [List.take_add_one, List.getElem?_eq_getElem hi, e]; simp
  · intro x hx' q
    simp at hx'
    exact hb (by rw [List.getElem?_eq_getElem hi, ← hx', q])
theorem WdR.yes {t : List UInt8} {i : Nat} {fs : List (List UInt8)} {r : List UInt8} (h : WdR t i fs r) (hb : t[i]? = some 32) : WdR t (i + 1) (fs ++ [r]) [] := by
  obtain ⟨e, hr, hx⟩ := h
  refine ⟨?_, noB_nil _, ?_⟩
  · rw [List.take_add_one, hb, e, frontL_snoc]; simp
  · intro x hx'
    rcases List.mem_append.1 hx' with q | q
    · exact hx x q
    · simp at q
      subst q
      exact hr
theorem WdR.len {t : List UInt8} {i : Nat} {fs : List (List UInt8)} {r : List UInt8} (h : WdR t i fs r) : r.length ≤ i := by
  have q := congrArg List.length h.1
  simp at q
  omega
theorem RowI.set {W wr : World} {g m cap : Nat} {fs : List (List UInt8)} {r r' : List UInt8} (hm : fs.length = m) (h : RowI W wr (.slice (some ⟨g, 0, none⟩) (m + 1) cap) (fs ++ [r])) : RowI W (wr.setCell ⟨g, m, none⟩ (.string (mkS r'))) (.slice (some ⟨g, 0, none⟩) (m + 1) cap) (fs ++ [r']) := by
  have hl : ∀ r, (fs ++ [r]).length = m + 1 := fun r => by simp [hm]
  have h0 := h.row
  rw [hl] at h0
  obtain ⟨k1, k2⟩ := World.ownsRow.stored h0 m (.string (mkS r'))
  refine ⟨?_, h.chg.grown k2 (fun k e hk => by injection e with e; subst e; have := h.new g rfl; omega), h.new⟩
  rw [hl, strsRow_snoc]
  rw [strsRow_snoc, List.set_append_right _ _ (by simp [strsRow, hm])] at k1
  have : m - (strsRow fs).length = 0 := by simp [strsRow, hm]
  rw [this] at k1
  exact k1
theorem RowI.cell {W wr : World} {g m cap : Nat} {fs : List (List UInt8)} {r : List UInt8} (hm : fs.length = m) (h : RowI W wr (.slice (some ⟨g, 0, none⟩) (m + 1) cap) (fs ++ [r])) : wr.cell? ⟨g, m, none⟩ = some (.string (mkS r)) ∧ wr.frozen? ⟨g, m, none⟩ = false := by
  have h0 := h.row
  rw [show (fs ++ [r]).length = m + 1 by simp [hm]] at h0
  refine ⟨?_, World.ownsRow.frozenAt h0 m⟩
  rw [World.ownsRow.cellAt h0 m (by omega), strsRow_snoc, List.getElem?_append_right (by simp [strsRow, hm])]
  simp [strsRow, hm]
theorem RowI.form {W wr : World} {v : Value} {fs : List (List UInt8)} {r : List UInt8} (h : RowI W wr v (fs ++ [r])) : ∃ g cap, v = .slice (some ⟨g, 0, none⟩) (fs.length + 1) cap := by
  have h0 := h.row
  rw [show (fs ++ [r]).length = fs.length + 1 by simp] at h0
  rcases h0.2 with ⟨_, e⟩ | ⟨g, cap, cur, e, _⟩
  · omega
  · exact ⟨g, cap, e⟩

set_option maxRecDepth 100000 in
set_option maxHeartbeats 4000000 in
theorem r_words (t : List UInt8) (ht : t.length ≤ 200000000) (W : World) :
    Calls Tryd.prog 21 #[.string (mkS t)] W fun e W' => ∃ v, e = .returned v ∧ ∃ fs r, RowI W W' v (fs ++ [r]) ∧ WdR t t.length fs r := by
  obtain ⟨i0, hi, hz0, hz1, hz2⟩ := info_parts infoStr
  have HI := keepH hi
  have hix := fun n hn => idx_str t n hn 32
  have hcm := cut_m t
  obtain ⟨s, hs⟩ : ∃ s, s = mkS t := ⟨_, rfl⟩
  have hsz : s.size = t.length := by rw [hs, mkS_size]
  rw [← hs] at hix hcm ⊢
  have HX := keepH hix
  have HC := keepH hcm
  clear hi hix hcm hs
  go_enter Tryd.func21, Tryd.ntmps21
  go_wp2_with fail
  go_loopw [3, 4] (fun v i wr => ∃ (k : Nat) (fs : List (List UInt8)) (r : List UInt8), k ≤ t.length ∧ fs.length ≤ k ∧ i = .int .i64 (k : Int) ∧ Hid (WdR t k fs r ∧ RowI W wr v (fs ++ [r]))) (fun _ i _ => t.length - (intOf i).toNat)
  case atStart => exact ⟨0, [], [], by omega, by simp, rfl, keepH ⟨⟨by simp [frontL], noB_nil _, by simp⟩, World.ownsRow_lit W #[.string ⟨#[]⟩] 1 (Nat.zero_le _) (by unfold maxLen; omega) rfl, (Chg.refl _ _).alloc _, fun b hb => by simp [Value.ownBlock] at hb; omega⟩⟩
  case round =>
    obtain ⟨k, fs, r, hk, hlk, rfl, HK⟩ := hrel
    obtain ⟨g, cap, rfl⟩ := HK.out.2.form
    obtain ⟨m, hm⟩ : ∃ m, m = fs.length := ⟨_, rfl⟩
    rw [← hm] at HK hlk ⊢
    have HM := keepH hm
    clear hm
    by_cases hlt : k < t.length
    · have t1 : (k : Int) < (s.size : Int) := by omega
      have t0 : (0 : Int) ≤ (k : Int) := by omega
      have qw : IntKind.i64.wrap ((k : Int) + 1) = ((k + 1 : Nat) : Int) := by rw [IntKind.wrap_i64]; omega
      obtain ⟨x, hx, hxi⟩ := HX.out k hlt
      by_cases h1 : t[k]? = some 32
      · have hx10 := hxi.2 h1
        have HNX := keepH (HK.out.1.yes h1)
        have hi := HI.out
        have HRW : Hid (wr.ownsRow 0 9 1 (.slice (some ⟨g, 0, none⟩) (m + 1) cap) (m + 1) (strsRow (fs ++ [r]))) := by
          have := HK.out.2.row
          rw [show (fs ++ [r]).length = m + 1 by rw [HM.out]; simp] at this
          exact keepH this
        have q10 : ((x : Nat) : Int) = 32 := by rw [hx10]; rfl
        rw [q10] at hx
        clear hxi h1 hx10 q10
        go_wp2_with (first | (at_builtin; refine wpList_append_own_at _ rfl (.tmp 16) (.tmp 17) 49 rfl 0 9 i0 (.string ⟨#[]⟩) 1 16 Tryd.underlying49 hi hz0 hz1 hz2 rfl (by decide) (.slice (some ⟨g, 0, none⟩) (m + 1) cap) (m + 1) (strsRow (fs ++ [r])) rfl (HRW.out.alloc _) ⟨wr.heap.size, 0, none⟩ 1 1 [.string ⟨#[]⟩] rfl rfl (cells_new _ _ (by simp) _ _) (by intro u hu; simp at hu; rcases hu with rfl; rfl) (by unfold maxLen; omega) (by omega) (Nat.zero_le _) ?_; intro v2 w2 r1 r2 r3 r4; have R1 := keepH r1; have R2 := keepH r2; have R4 := keepH r4; clear r1 r2 r3 r4) | go_in)
        go_roundw
        case rel => exact ⟨k + 1, fs ++ [r], [], by omega, by have := HM.out; simp; omega, by first | rfl | go_num, keepH ⟨HNX.out, HK.out.2.more (r := []) (by rw [show (fs ++ [r]).length = m + 1 by rw [HM.out]; simp]; exact R1.out) R2.out R4.out⟩⟩
        case measure => simp [intOf]; omega
      · have HNX := keepH (HK.out.1.no hlt h1)
        have q10 : ¬ ((x : Nat) : Int) = 32 := fun q => h1 (hxi.1 (by rw [show (32 : UInt8).toNat = 32 from rfl]; omega))
        have hcx := HC.out k (k + 1) (by omega) (by omega)
        rw [show (t.drop k).take (k + 1 - k) = [t[k]] by rw [List.drop_eq_getElem_cons hlt, show k + 1 - k = 1 by omega]; rfl] at hcx
        have hrl := HK.out.1.len
        have had := add_str r [t[k]] (by simp; omega)
        obtain ⟨g1, g2⟩ := RowI.cell HM.out.symm HK.out.2
        have HNR := keepH (HK.out.2.set (r' := r ++ [t[k]]) HM.out.symm)
        obtain ⟨r', hr'⟩ : ∃ r', r' = r ++ [t[k]] := ⟨_, rfl⟩
        rw [← hr'] at had HNX HNR
        obtain ⟨sb, hsb⟩ : ∃ sb, sb = mkS [t[k]] := ⟨_, rfl⟩
        obtain ⟨sr, hsr⟩ : ∃ sb, sb = mkS r := ⟨_, rfl⟩
        obtain ⟨sn, hsn⟩ : ∃ sb, sb = mkS r' := ⟨_, rfl⟩
        rw [← hsb] at hcx
        rw [show ((k + 1 : Nat) : Int) = (k : Int) + 1 by omega] at hcx
        rw [← hsb, ← hsr, ← hsn] at had
        rw [← hsr] at g1
        have HSN := keepH hsn
        have qm : IntKind.i64.wrap (((m + 1 : Nat) : Int) - 1) = (m : Int) := by rw [IntKind.wrap_i64]; omega
        have m0 : (0 : Int) ≤ (m : Int) := by omega
        have m1 : (m : Int) < ((m + 1 : Nat) : Int) := by omega
        clear hsb hsr hsn hr' hxi h1
        go_upto_region 7 with fail
        go_region
        go_wp2_with fail
        go_roundw
        case rel => exact ⟨k + 1, fs, r', by omega, by have := HM.out; omega, by first | rfl | go_num, keepH ⟨HNX.out, by rw [HSN.out]; exact ⟨HNR.out.row, HNR.out.chg.drew, HNR.out.new⟩⟩⟩
        case measure => simp [intOf]; omega
    · obtain rfl : k = t.length := by omega
      have t1 : ¬ (t.length : Int) < (s.size : Int) := by omega
      go_wp2_with fail
      go_ret
      exact ⟨_, by simp, fs, r, HK.out.2, HK.out.1⟩
end Go.Proofs.YtfohpbpekdcneaaDoor
