/- Print, the program's and the document's. -/
import Derived.Test.YtoldkjlcfgpnoaaDoorWs
import Derived.Laws.Concat
namespace Go.Proofs.YtoldkjlcfgpnoaaDoor
open Go.RowKit Go.Shelf
set_option linter.unusedVariables false

theorem packE_ok {k g m : Nat} (h : okS k g m) : packE k g m = 0 := by
  obtain ⟨h1, h2, h3⟩ := h
  unfold packE
  rw [if_neg (by omega), if_neg (by omega), if_neg (by omega)]
theorem packE_no {k g m : Nat} (h : ¬ okS k g m) : packE k g m = 2 := by
  unfold packE
  by_cases c1 : 3 < (k : Int)
  · rw [if_pos c1]
  · by_cases c2 : 1048576 ≤ (g : Int)
    · rw [if_neg c1, if_pos c2]
    · by_cases c3 : 1099511627776 < (m : Int)
      · rw [if_neg c1, if_neg c2, if_pos c3]
      · exact absurd ⟨by omega, by omega, by omega⟩ h

/-- a slot's box, and what is laid, in a world behind w -/
structure PS (w : World) (b k g m : Nat) (w' : World) : Prop where
  bel : Below w.heap.size w w'
  box : w'.heap[b]? = some (.cells #[.int .u8 k, .int .u64 g, .int .u64 m] 25 (0, 0))
  tb : Tb w'
theorem heap_below {w w' : World} {b : Nat} {o : Obj} (h : w.heap[b]? = some o) (hb : Below w.heap.size w w') : w'.heap[b]? = some o := by
  have hlt : b < w.heap.size := by
    rcases Nat.lt_or_ge b w.heap.size with h' | h'
    · exact h'
    · rw [Array.getElem?_eq_none h'] at h; simp at h
  rw [hb.block b hlt]; exact h
theorem PS.on {w w' w'' : World} {b k g m : Nat} (h : PS w b k g m w') (hb : Below w'.heap.size w' w'') : PS w b k g m w'' :=
  ⟨below_chain h.bel hb, heap_below h.box hb, h.tb.on hb⟩
theorem PS.drew {w w' : World} {b k g m : Nat} (h : PS w b k g m w') : PS w b k g m w'.drew := h.on (below_drewN (Below.refl _ _) 1)
theorem PS.start {w : World} {k g m : Nat} (T : Tb w) : PS w w.heap.size k g m (w.alloc (.cells #[.int .u8 k, .int .u64 g, .int .u64 m] 25)) :=
  ⟨below_alloc _ _, heap_alloc_new _ _, T.on (below_alloc _ _)⟩
theorem PS.c0 {w w' : World} {b k g m : Nat} (h : PS w b k g m w') : w'.cell? ⟨b, 0, none⟩ = some (.int .u8 k) := by simp [World.cell?, h.box]
theorem PS.c1 {w w' : World} {b k g m : Nat} (h : PS w b k g m w') : w'.cell? ⟨b, 1, none⟩ = some (.int .u64 g) := by simp [World.cell?, h.box]
theorem PS.c2 {w w' : World} {b k g m : Nat} (h : PS w b k g m w') : w'.cell? ⟨b, 2, none⟩ = some (.int .u64 m) := by simp [World.cell?, h.box]

theorem cat_pr (k g m : Nat) : (((mkS (ktL k) ++ (⟨#[32]⟩ : ByteArray)) ++ mkS (Lib.decDigits g)) ++ (⟨#[32]⟩ : ByteArray)) ++ mkS (Lib.decDigits m) = mkS (prL k g m) := by
  unfold prL
  apply ByteArray.ext
  simp [ByteArray.data_append]

set_option maxHeartbeats 1000000 in
theorem print_no (k g m : Nat) (hk : k < 256) (hg : g < 18446744073709551616) (hm : m < 18446744073709551616) (w : World) (h : ¬ okS k g m) :
    Calls Tryd.prog 8 #[.agg #[.int .u8 k, .int .u64 g, .int .u64 m]] w fun e w' => e = .returned (.string (mkS [])) ∧ Below w.heap.size w w' := by
  go_enter Tryd.func8, Tryd.ntmps8
  go_wp2_with fail
  refine (pack_any k g m _ (by omega) (by omega) (by omega) (by omega) (by omega) (by omega)).mono ?_
  rintro e w' ⟨rfl, rfl⟩
  rw [packE_no h]
  go_wp2
  go_ret
  exact ⟨rfl, ((Below.refl _ w).alloc (Nat.le_refl _) _).alloc (by simp) _⟩

theorem add_str (a b : ByteArray) (h : a.size + b.size ≤ 1000000) : ∀ W, (Op.stringOp .add a b).run Tryd.prog W = .ok (.string (a ++ b)) W := fun W => run_string_add_sum W a b (by omega)
theorem dec_len {u : Nat} (h : u < 18446744073709551616) : (Lib.decDigits u).length ≤ 20 := by
  rw [Lib.decDigits_length]
  by_cases h1 : 1 ≤ u
  · have := Lib.numDigits_eq u h1 h; split at this <;> omega
  · have : u = 0 := by omega
    subst this; rw [Lib.nDigits_small (by omega)]; omega
theorem kt_len (k : Nat) : (ktL k).length ≤ 7 := by
  match k with
  | 0 => simp [ktL]
  | 1 => simp [ktL]
  | 2 => simp [ktL]
  | (n + 3) => simp [ktL]
/-- the five pieces of a slot's text, joined one behind the other -/
theorem joins (k g m : Nat) (hg : g < 18446744073709551616) (hm : m < 18446744073709551616) : ∃ s1 s2 s3 : ByteArray,
    (∀ W, (Op.stringOp .add (mkS (ktL k)) ⟨#[32]⟩).run Tryd.prog W = .ok (.string s1) W) ∧ (∀ W, (Op.stringOp .add s1 (mkS (Lib.decDigits g))).run Tryd.prog W = .ok (.string s2) W) ∧
    (∀ W, (Op.stringOp .add s2 ⟨#[32]⟩).run Tryd.prog W = .ok (.string s3) W) ∧ (∀ W, (Op.stringOp .add s3 (mkS (Lib.decDigits m))).run Tryd.prog W = .ok (.string (mkS (prL k g m))) W) := by
  have z0 := mkS_size (ktL k)
  have z1 := mkS_size (Lib.decDigits g)
  have z2 := mkS_size (Lib.decDigits m)
  have l0 := kt_len k
  have l1 := dec_len hg
  have l2 := dec_len hm
  have zb : (⟨#[32]⟩ : ByteArray).size = 1 := rfl
  refine ⟨_, _, _, add_str _ _ (by omega), add_str _ _ ?_, add_str _ _ ?_, fun W => ?_⟩
  · rw [ByteArray.size_append]; omega
  · rw [ByteArray.size_append, ByteArray.size_append]; omega
  · rw [← cat_pr]
    exact add_str _ _ (by rw [ByteArray.size_append, ByteArray.size_append, ByteArray.size_append]; omega) W

set_option maxHeartbeats 2000000 in
theorem print_yes (k g m : Nat) (w : World) (T : Tb w) (h : okS k g m) :
    Calls Tryd.prog 8 #[.agg #[.int .u8 k, .int .u64 g, .int .u64 m]] w fun e w' => e = .returned (.string (mkS (prL k g m))) ∧ Below w.heap.size w w' := by
  obtain ⟨h1, h2, h3⟩ := h
  have hpk := packE_ok (k := k) (g := g) (m := m) ⟨h1, h2, h3⟩
  have P0 := PS.start (k := k) (g := g) (m := m) T
  obtain ⟨s1, s2, s3, j1, j2, j3, j4⟩ := joins k g m (by omega) (by omega)
  obtain ⟨sP, hP⟩ : ∃ s, s = mkS (prL k g m) := ⟨_, rfl⟩
  obtain ⟨sK, hK⟩ : ∃ s, s = mkS (ktL k) := ⟨_, rfl⟩
  obtain ⟨sG, hG⟩ : ∃ s, s = mkS (Lib.decDigits g) := ⟨_, rfl⟩
  obtain ⟨sM, hM⟩ : ∃ s, s = mkS (Lib.decDigits m) := ⟨_, rfl⟩
  rw [← hP] at j4 ⊢
  rw [← hK] at j1
  rw [← hG] at j2
  rw [← hM] at j4
  have hTK : ∀ w', Tb w' → w'.cell? ⟨0, k, none⟩ = some (.string sK) := fun w' t => by rw [hK]; exact t.kt k h1
  have H1 : ∀ w1, PS w w.heap.size k g m w1 → Hid (Calls Tryd.prog 17 #[.int .u64 g] w1 fun e w' => e = .returned (.string sG) ∧ PS w w.heap.size k g m w') := fun w1 p => by
    rw [hG]
    refine (dec_any g (by omega) w1 p.tb.tab).mono ?_
    rintro e w2 ⟨rfl, hb⟩
    exact ⟨rfl, p.on hb⟩
  have H2 : ∀ w1, PS w w.heap.size k g m w1 → Hid (Calls Tryd.prog 17 #[.int .u64 m] w1 fun e w' => e = .returned (.string sM) ∧ PS w w.heap.size k g m w') := fun w1 p => by
    rw [hM]
    refine (dec_any m (by omega) w1 p.tb.tab).mono ?_
    rintro e w2 ⟨rfl, hb⟩
    exact ⟨rfl, p.on hb⟩
  have hS : ∀ w1, PS w w.heap.size k g m w1 → w1.cell? ⟨w.heap.size, 0, none⟩ = some (.int .u8 k) ∧ w1.cell? ⟨w.heap.size, 1, none⟩ = some (.int .u64 g) ∧ w1.cell? ⟨w.heap.size, 2, none⟩ = some (.int .u64 m) ∧ w1.cell? ⟨0, k, none⟩ = some (.string sK) :=
    fun w1 p => ⟨p.c0, p.c1, p.c2, hTK w1 p.tb⟩
  have P1 := P0.on (below_alloc _ (.cells #[.int .u8 k, .int .u64 g, .int .u64 m] 25))
  clear hP hK hG hM
  go_enter Tryd.func8, Tryd.ntmps8
  go_wp2_with fail
  refine (pack_any k g m _ (by omega) (by omega) (by omega) (by omega) (by omega) (by omega)).mono ?_
  rintro e w' ⟨rfl, hw'⟩
  rw [← hw'] at P1
  rw [hpk]
  clear hw' hpk P0
  go_upto_region 4 with fail
  have k1 : (0 : Int) ≤ (k : Int) := by omega
  have k2 : (k : Int) < 4 := by omega
  go_region_held3 (fun w' => w'.cell? ⟨w.heap.size, 0, none⟩ = some (.int .u8 k) ∧ w'.cell? ⟨w.heap.size, 1, none⟩ = some (.int .u64 g) ∧ w'.cell? ⟨w.heap.size, 2, none⟩ = some (.int .u64 m) ∧ w'.cell? ⟨0, k, none⟩ = some (.string sK)) (first | exact hS _ (by assumption) | exact hS _ P1.drew)
    (first | (go_at_call_of 17 (Value.int IntKind.u64 (g : Int)); refine (H1 _ (by first | assumption | exact P1.drew)).out.mono ?_; rintro e z1 ⟨rfl, hz1⟩) | (go_at_call_of 17 (Value.int IntKind.u64 (m : Int)); refine (H2 _ (by first | assumption | exact P1.drew)).out.mono ?_; rintro e z2 ⟨rfl, hz2⟩))
  go_wp2
  go_ret
  exact ⟨rfl, hz2.bel⟩
set_option maxHeartbeats 1000000 in
theorem rprint_no (k g m : Nat) (hk : k < 256) (hg : g < 18446744073709551616) (hm : m < 18446744073709551616) (w : World) (h : ¬ okS k g m) :
    Calls Tryd.prog 9 #[.agg #[.int .u8 k, .int .u64 g, .int .u64 m]] w fun e w' => e = .returned (.string (mkS [])) ∧ Below w.heap.size w w' := by
  go_enter Tryd.func9, Tryd.ntmps9
  go_wp2_with fail
  refine (refPack_any k g m _ (by omega) (by omega) (by omega) (by omega) (by omega) (by omega)).mono ?_
  rintro e w' ⟨rfl, hw⟩
  have hb : Below w.heap.size w w' := by
    rcases hw with rfl | rfl
    · exact ((Below.refl _ w).alloc (Nat.le_refl _) _).alloc (by simp) _
    · exact (((Below.refl _ w).alloc (Nat.le_refl _) _).alloc (by simp) _).alloc (by simp; omega) _
  clear hw
  rw [packE_no h]
  go_wp2
  go_ret
  exact ⟨rfl, hb⟩

def names4 : Array Value := #[.string ⟨#[102, 114, 101, 101]⟩, .string ⟨#[99, 108, 97, 105, 109, 101, 100]⟩, .string ⟨#[101, 97, 114, 108, 121]⟩, .string ⟨#[101, 120, 97, 99, 116]⟩]
theorem names4_at {k : Nat} (h : k ≤ 3) : names4[k]? = some (.string (mkS (ktL k))) := by
  have h' : k = 0 ∨ k = 1 ∨ k = 2 ∨ k = 3 := by omega
  rcases h' with rfl | rfl | rfl | rfl <;> rfl
structure PN (w : World) (b k g m nb : Nat) (w' : World) : Prop where
  ps : PS w b k g m w'
  nm : w'.heap[nb]? = some (.cells names4 48 (0, 0))
theorem PN.on {w w' w'' : World} {b k g m nb : Nat} (h : PN w b k g m nb w') (hb : Below w'.heap.size w' w'') : PN w b k g m nb w'' := ⟨h.ps.on hb, heap_below h.nm hb⟩
theorem PN.drew {w w' : World} {b k g m nb : Nat} (h : PN w b k g m nb w') : PN w b k g m nb w'.drew := h.on (below_drewN (Below.refl _ _) 1)
theorem PN.cell {w w' : World} {b k g m nb : Nat} (h : PN w b k g m nb w') (hk : k ≤ 3) : w'.cell? ⟨nb, k, none⟩ = some (.string (mkS (ktL k))) := by
  simp only [World.cell?, h.nm, names4_at hk]; rfl

set_option maxHeartbeats 2000000 in
theorem rprint_yes (k g m : Nat) (w : World) (T : Tb w) (h : okS k g m) :
    Calls Tryd.prog 9 #[.agg #[.int .u8 k, .int .u64 g, .int .u64 m]] w fun e w' => e = .returned (.string (mkS (prL k g m))) ∧ Below w.heap.size w w' := by
  obtain ⟨h1, h2, h3⟩ := h
  have hpk := packE_ok (k := k) (g := g) (m := m) ⟨h1, h2, h3⟩
  have P0 := PS.start (k := k) (g := g) (m := m) T
  obtain ⟨s1, s2, s3, j1, j2, j3, j4⟩ := joins k g m (by omega) (by omega)
  obtain ⟨sP, hP⟩ : ∃ s, s = mkS (prL k g m) := ⟨_, rfl⟩
  obtain ⟨sK, hK⟩ : ∃ s, s = mkS (ktL k) := ⟨_, rfl⟩
  obtain ⟨sG, hG⟩ : ∃ s, s = mkS (Lib.decDigits g) := ⟨_, rfl⟩
  obtain ⟨sM, hM⟩ : ∃ s, s = mkS (Lib.decDigits m) := ⟨_, rfl⟩
  rw [← hP] at j4 ⊢
  rw [← hK] at j1
  rw [← hG] at j2
  rw [← hM] at j4
  have H1 : ∀ nb w1, PN w w.heap.size k g m nb w1 → Hid (Calls Tryd.prog 19 #[.int .u64 g, .int .i64 10] w1 fun e w' => e = .returned (.string sG) ∧ PN w w.heap.size k g m nb w') := fun nb w1 p => by
    rw [hG]
    refine (fmtU g (by omega) w1 p.ps.tb.tab).mono ?_
    rintro e w2 ⟨rfl, hb⟩
    exact ⟨rfl, p.on hb⟩
  have H2 : ∀ nb w1, PN w w.heap.size k g m nb w1 → Hid (Calls Tryd.prog 19 #[.int .u64 m, .int .i64 10] w1 fun e w' => e = .returned (.string sM) ∧ PN w w.heap.size k g m nb w') := fun nb w1 p => by
    rw [hM]
    refine (fmtU m (by omega) w1 p.ps.tb.tab).mono ?_
    rintro e w2 ⟨rfl, hb⟩
    exact ⟨rfl, p.on hb⟩
  have hS : ∀ nb w1, PN w w.heap.size k g m nb w1 → w1.cell? ⟨w.heap.size, 0, none⟩ = some (.int .u8 k) ∧ w1.cell? ⟨w.heap.size, 1, none⟩ = some (.int .u64 g) ∧ w1.cell? ⟨w.heap.size, 2, none⟩ = some (.int .u64 m) ∧ w1.cell? ⟨nb, k, none⟩ = some (.string sK) :=
    fun nb w1 p => ⟨p.ps.c0, p.ps.c1, p.ps.c2, by rw [hK]; exact p.cell h1⟩
  clear hP hG hM hK
  go_enter Tryd.func9, Tryd.ntmps9
  go_wp2_with fail
  refine (refPack_any k g m _ (by omega) (by omega) (by omega) (by omega) (by omega) (by omega)).mono ?_
  rintro e w' ⟨rfl, hw'⟩
  have P1 : PS w w.heap.size k g m w' := by
    rcases hw' with rfl | rfl
    · exact P0.on (below_alloc _ _)
    · exact (P0.on (below_alloc _ _)).on (below_alloc _ _)
  rw [hpk]
  clear hw' hpk P0
  go_upto_region 5 with fail
  obtain ⟨w2, hw2⟩ : ∃ w2, w2 = w'.alloc (.cells names4 48) := ⟨_, rfl⟩
  have P2 : PN w w.heap.size k g m w'.heap.size w2 := by
    rw [hw2]; exact ⟨P1.on (below_alloc _ _), heap_alloc_new _ _⟩
  rw [← show w2 = w'.alloc (.cells #[.string ⟨#[102, 114, 101, 101]⟩, .string ⟨#[99, 108, 97, 105, 109, 101, 100]⟩, .string ⟨#[101, 97, 114, 108, 121]⟩, .string ⟨#[101, 120, 97, 99, 116]⟩] 48) from hw2]
  clear hw2 P1
  obtain ⟨nb, hnb⟩ : ∃ nb, nb = w'.heap.size := ⟨_, rfl⟩
  rw [← hnb] at P2 ⊢
  clear hnb
  have k1 : (0 : Int) ≤ (k : Int) := by omega
  have k2 : (k : Int) < 4 := by omega
  go_region_held3 (fun w' => w'.cell? ⟨w.heap.size, 0, none⟩ = some (.int .u8 k) ∧ w'.cell? ⟨w.heap.size, 1, none⟩ = some (.int .u64 g) ∧ w'.cell? ⟨w.heap.size, 2, none⟩ = some (.int .u64 m) ∧ w'.cell? ⟨nb, k, none⟩ = some (.string sK)) (first | exact hS _ _ (by assumption) | exact hS _ _ P2.drew)
    (first | (go_at_call_of 19 (Value.int IntKind.u64 (g : Int)); refine (H1 nb _ (by first | assumption | exact P2.drew)).out.mono ?_; rintro e z1 ⟨rfl, hz1⟩) | (go_at_call_of 19 (Value.int IntKind.u64 (m : Int)); refine (H2 nb _ (by first | assumption | exact P2.drew)).out.mono ?_; rintro e z2 ⟨rfl, hz2⟩))
  go_wp2
  go_ret
  exact ⟨rfl, hz2.ps.bel⟩

theorem print_any (k g m : Nat) (hk : k < 256) (hg : g < 18446744073709551616) (hm : m < 18446744073709551616) (w : World) (T : Tb w) :
    Calls Tryd.prog 8 #[.agg #[.int .u8 k, .int .u64 g, .int .u64 m]] w fun e w' => e = .returned (.string (mkS (prT k g m))) ∧ Below w.heap.size w w' := by
  unfold prT
  by_cases h : okS k g m
  · rw [if_pos h]; exact print_yes k g m w T h
  · rw [if_neg h]; exact print_no k g m hk hg hm w h
theorem rprint_any (k g m : Nat) (hk : k < 256) (hg : g < 18446744073709551616) (hm : m < 18446744073709551616) (w : World) (T : Tb w) :
    Calls Tryd.prog 9 #[.agg #[.int .u8 k, .int .u64 g, .int .u64 m]] w fun e w' => e = .returned (.string (mkS (prT k g m))) ∧ Below w.heap.size w w' := by
  unfold prT
  by_cases h : okS k g m
  · rw [if_pos h]; exact rprint_yes k g m w T h
  · rw [if_neg h]; exact rprint_no k g m hk hg hm w h
end Go.Proofs.YtoldkjlcfgpnoaaDoor
