/- What a Cut leaves: the versions, what a stamp asks for, what is needed. -/
import Derived.MapViews
import Derived.DeepKeys4
import Derived.Test.YtciohnfbjaglbaaKx
namespace Go.Proofs.Ytciohnfbjaglbaa
open Go.RowKit Go.Shelf Go.Joins
set_option linter.unusedVariables false

theorem wf_u64 {n : Nat} (h : n < 18446744073709551616) : (Lit.int .u64 (n : Int)).wf = true := by
  have e1 : IntKind.u64.min = 0 := by decide
  have e2 : IntKind.u64.max = 18446744073709551615 := by decide
  simp [Lit.wf, e1, e2]
  omega
theorem trod_u (n : Nat) (h : n < 18446744073709551616) (w : World) : ∃ m, DataW.trod (H := Unit) (fun _ => ()) Try.prog w 0 (fun _ => true) true m 22 [.int .u64 (n : Int)] = some (.lit (.int .u64 (n : Int)), []) :=
  ⟨1, by simp [DataW.trod, Try.underlying22, wf_u64 h]⟩
set_option maxRecDepth 100000 in
theorem ver_key (a b : Nat) (ha : a < 18446744073709551616) (hb : b < 18446744073709551616) (w : World) : ∃ l, keyOf Try.prog 59 (.agg #[.int .u64 (a : Int), .int .u64 (b : Int)]) = some l := by
  have t := shut_agg2 (enc := fun _ => ()) (P := Try.prog) (w := w) (base := 0) (spare := fun _ => true) (held := true) Try.underlying59 (by kernel_rfl) (by kernel_rfl) (trod_u a ha w) (trod_u b hb w)
  exact ⟨_, (keyOf_asKey (by kernel_rfl) (by kernel_rfl) (by kernel_rfl) t).1⟩
set_option maxRecDepth 100000 in
theorem ver_eql (a b c d : Nat) (ha : a < 18446744073709551616) (hb : b < 18446744073709551616) (hc : c < 18446744073709551616) (hd : d < 18446744073709551616) (w : World) :
    (Op.equal 59 (.agg #[.int .u64 (a : Int), .int .u64 (b : Int)]) (.agg #[.int .u64 (c : Int), .int .u64 (d : Int)])).run Try.prog w = .ok (decide ((a, b) = (c, d))) w := by
  obtain ⟨l, hl⟩ := ver_key a b ha hb w
  obtain ⟨l', hl'⟩ := ver_key c d hc hd w
  obtain ⟨r, hr, hi⟩ := run_equal_deep (P := Try.prog) w (m := 3) (by omega) (by kernel_rfl) (by kernel_rfl) hl hl'
  rw [hr]
  congr 1
  by_cases e : (a, b) = (c, d)
  · simp only [Prod.mk.injEq] at e
    obtain ⟨rfl, rfl⟩ := e
    rw [hl] at hl'
    simp only [Option.some.injEq] at hl'
    simp [hi.2 hl']
  · have h1 : ¬ r = true := fun h => by
      have h2 := hi.1 h
      subst h2
      have h3 := keyOf_inj_deep (P := Try.prog) (m := 3) (by kernel_rfl) (by kernel_rfl) hl hl'
      simp at h3
      exact e (by simp; omega)
    simp [e, h1]
set_option maxRecDepth 100000 in
theorem ver_neq (a b c d : Nat) (ha : a < 18446744073709551616) (hb : b < 18446744073709551616) (hc : c < 18446744073709551616) (hd : d < 18446744073709551616) (w : World) :
    (binOp .neq 59 (.agg #[.int .u64 (a : Int), .int .u64 (b : Int)]) (.agg #[.int .u64 (c : Int), .int .u64 (d : Int)])).run Try.prog w = .ok (.bool (!decide ((a, b) = (c, d)))) w := by
  have h := ver_eql a b c d ha hb hc hd w
  simp only [binOp, go_sem]
  simp [h, Result.andThen]

section
variable {F : Nat} {l st : List Nat} {n : Nat}
theorem was_hN {cs : List Nat} (hr : RowC st n cs) (hl : ∀ j, j < n → cellN cs (aN n j + 2) = aN n (j + 1)) : ∀ k, k ≤ n → hN cs (1 + 3 * n) k = aN n k := by
  intro k
  induction k with
  | zero => intro _; exact hr.obj
  | succ k ih =>
    intro hk
    show cellN cs (hN cs (1 + 3 * n) k + 2) = _
    rw [ih (by omega), hl k (by omega)]
theorem now_hN {cs : List Nat} {s : CutS} {M : Nat} (h : PEnd F l st n cs s M) : ∀ k, k ≤ M → hN cs (1 + 3 * n) k = aN n (itN F l st n k) := by
  intro k
  induction k with
  | zero => intro _; exact h.row.obj
  | succ k ih =>
    intro hk
    show cellN cs (hN cs (1 + 3 * n) k + 2) = _
    rw [ih (by omega), (h.lnk k (by omega)).2.1]
theorem was_stops {cs : List Nat} {most : Nat} (hr : RowC st n cs) (hl : ∀ j, j < n → cellN cs (aN n j + 2) = aN n (j + 1)) (hm : 3 * n + 2 < most) : Stops cs most (1 + 3 * n) n := by
  refine ⟨by omega, fun i hi => ?_, fun x => ?_⟩
  · rw [was_hN hr hl i (by omega)]
    exact ⟨aN_pos hi, by have := aN_le n i; omega⟩
  · rw [was_hN hr hl n (Nat.le_refl _), aN_end (Nat.le_refl _)] at x
    exact x.1.1 rfl
theorem PEnd.le {cs : List Nat} {s : CutS} {M : Nat} (h : PEnd F l st n cs s M) : M ≤ n := by have := h.cnt; omega
theorem now_stops {cs : List Nat} {s : CutS} {M most : Nat} (h : PEnd F l st n cs s M) (hm : 3 * n + 2 < most) : Stops cs most (1 + 3 * n) M := by
  have := h.le
  refine ⟨by omega, fun i hi => ?_, fun x => ?_⟩
  · rw [now_hN h i (by omega)]
    exact ⟨aN_pos (h.lnk i hi).1, by have := aN_le n (itN F l st n i); omega⟩
  · rw [now_hN h M (Nat.le_refl _), h.fin, aN_end (Nat.le_refl _)] at x
    exact x.1.1 rfl
theorem was_V {cs : List Nat} (hr : RowC st n cs) (hl : ∀ j, j < n → cellN cs (aN n j + 2) = aN n (j + 1)) {k : Nat} (hk : k < n) : verV cs (1 + 3 * n) k = k + 1 ∧ verS cs (1 + 3 * n) k = stA st k := by
  unfold verV verS
  rw [was_hN hr hl k (by omega)]
  exact ⟨hr.val k hk, hr.stp k hk⟩
theorem now_V {cs : List Nat} {s : CutS} {M : Nat} (h : PEnd F l st n cs s M) {k : Nat} (hk : k < M) : verV cs (1 + 3 * n) k = itN F l st n k + 1 ∧ verS cs (1 + 3 * n) k = stA st (itN F l st n k) := by
  unfold verV verS
  rw [now_hN h k (by omega)]
  exact ⟨h.row.val _ (h.lnk k hk).1, h.row.stp _ (h.lnk k hk).1⟩
theorem PEnd.mono {cs : List Nat} {s : CutS} {M : Nat} (h : PEnd F l st n cs s M) {a b : Nat} (hab : a < b) (hb : b ≤ M) : itN F l st n a < itN F l st n b :=
  itN_lt (m := b) (fun t ht => (h.lnk t (by omega)).2.2) hab
/-- A stamp that is needed for itself: what it asks for is asked for of whatever is above it. -/
theorem need_self {t s e : Nat} (ht : t < 18446744073709551616) (h : ndN F l t (addP t 1) = true) (hs : s ≤ t) (he : t < e) : ndN F l s e = true ∧ t < 18446744073709551615 := by
  rw [rnd_eq] at h
  simp only [Bool.and_eq_true, decide_eq_true_eq, Bool.or_eq_true] at h
  obtain ⟨h1, h2⟩ := h
  have hw : addP t 1 = t + 1 := by
    by_cases c : t + 1 < 18446744073709551616
    · exact addP_small c
    · have : t = 18446744073709551615 := by omega
      subst this
      have : addP 18446744073709551615 1 = 0 := by decide
      omega
  rw [hw] at h1 h2
  have hlt : t < 18446744073709551615 := by
    have := addP_lt t 1
    omega
  refine ⟨?_, hlt⟩
  rcases h2 with h2 | h2
  · have : max s F < e := by omega
    simp [ndN, this]
  · obtain ⟨x, hx, h3⟩ := List.any_eq_true.1 h2
    have : l.any (hitN s e) = true := List.any_eq_true.2 ⟨x, hx, by
      simp only [hitN, Bool.and_eq_true, decide_eq_true_eq] at h3 ⊢
      omega⟩
    simp [ndN, this]
theorem at_same {cs0 cs1 : List Nat} {s : CutS} {M t : Nat} (hf : ∀ j, 0 < j → j < n → stA st j ≠ 0) (hr : RowC st n cs0) (hl : ∀ j, j < n → cellN cs0 (aN n j + 2) = aN n (j + 1)) (h : PEnd F l st n cs1 s M) (ht : t < 18446744073709551616) (hn : ndN F l t (addP t 1) = true) :
    atV cs1 (1 + 3 * n) M t = atV cs0 (1 + 3 * n) n t ∧ atS cs1 (1 + 3 * n) M t = atS cs0 (1 + 3 * n) n t := by
  obtain ⟨g1, g2, g3, g4⟩ := fstP_spec (asks (verS cs0 (1 + 3 * n)) t) n 0
  obtain ⟨f1, f2, f3, f4⟩ := fstP_spec (asks (verS cs1 (1 + 3 * n)) t) M 0
  have hk0 : atK cs0 (1 + 3 * n) n t = fstP (asks (verS cs0 (1 + 3 * n)) t) n 0 := rfl
  have hm0 : atK cs1 (1 + 3 * n) M t = fstP (asks (verS cs1 (1 + 3 * n)) t) M 0 := rfl
  rw [← hk0] at g1 g2 g3 g4
  rw [← hm0] at f1 f2 f3 f4
  obtain ⟨k0, ek⟩ : ∃ k0, k0 = atK cs0 (1 + 3 * n) n t := ⟨_, rfl⟩
  obtain ⟨m0, em⟩ : ∃ m0, m0 = atK cs1 (1 + 3 * n) M t := ⟨_, rfl⟩
  rw [← ek] at g1 g2 g3 g4
  rw [← em] at f1 f2 f3 f4
  have asW : ∀ k, k < n → asks (verS cs0 (1 + 3 * n)) t k = asks (stA st) t k := fun k hk => by unfold asks; rw [(was_V hr hl hk).2]
  have asN : ∀ k, k < M → asks (verS cs1 (1 + 3 * n)) t k = asks (stA st) t (itN F l st n k) := fun k hk => by unfold asks; rw [(now_V h hk).2]
  have nl : ∀ k, k < M → itN F l st n k < n := fun k hk => (h.lnk k hk).1
  -- the one is not behind the other
  have hge : k0 ≤ itN F l st n m0 := by
    by_cases c : m0 < M
    · by_cases c2 : itN F l st n m0 < k0
      · have e1 := g3 _ (by omega) c2
        rw [asW _ (nl m0 c), ← asN m0 c, f4 (by omega)] at e1
        simp at e1
      · omega
    · have : m0 = M := by omega
      rw [this, h.fin]
      omega
  have hle : ∀ m, m ≤ m0 → itN F l st n m ≤ k0 := by
    intro m
    induction m with
    | zero => intro _; exact Nat.zero_le _
    | succ m ih =>
      intro hm
      have i1 := ih (by omega)
      have hmM : m < M := by omega
      obtain ⟨b1, b2, b3⟩ := h.lnk m hmM
      have nm : asks (stA st) t (itN F l st n m) = false := by rw [← asN m hmM]; exact f3 m (by omega) (by omega)
      by_cases c : itN F l st n (m + 1) ≤ k0
      · exact c
      · exfalso
        have c2 : k0 < n := by
          have : itN F l st n (m + 1) ≤ n := by
            rw [itN_succ F l st n b1]
            exact (nxt_spec F l st n b1).2.1
          omega
        have mk := g4 (by omega)
        rw [asW k0 c2] at mk
        by_cases e : itN F l st n m = k0
        · rw [e, mk] at nm
          simp at nm
        · have lt : itN F l st n m < k0 := by omega
          have nd := (nxt_spec F l st n b1).2.2.1 k0 lt (by rw [← itN_succ F l st n b1]; omega)
          have mk' : stA st k0 ≠ 0 ∧ stA st k0 ≤ t := by simpa [asks] using mk
          have te : t < effN st (itN F l st n m) := by
            unfold effN
            by_cases z : stA st (itN F l st n m) = 0
            · rw [if_pos z]
              exact (need_self (s := t) (e := t + 1) ht hn (Nat.le_refl _) (by omega)).2
            · rw [if_neg z]
              by_cases y : stA st (itN F l st n m) ≤ t
              · have : asks (stA st) t (itN F l st n m) = true := by simp [asks, z, y]
                rw [this] at nm
                simp at nm
              · omega
          have nd2 := (need_self (s := stA st k0) ht hn mk'.2 te).1
          unfold needI at nd
          rw [nd2] at nd
          simp at nd
  have heq : itN F l st n m0 = k0 := by have := hle m0 (Nat.le_refl _); omega
  unfold atV atS
  rw [← ek, ← em]
  by_cases c : m0 < M
  · have c2 : k0 < n := by rw [← heq]; exact nl m0 c
    rw [if_pos c, if_pos c2, if_pos c, if_pos c2, (now_V h c).1, (now_V h c).2, (was_V hr hl c2).1, (was_V hr hl c2).2, heq]
    exact ⟨rfl, rfl⟩
  · have e : m0 = M := by omega
    have c2 : ¬ k0 < n := by rw [← heq, e, h.fin]; omega
    rw [if_neg c, if_neg c2, if_neg c, if_neg c2]
    exact ⟨rfl, rfl⟩
theorem now_need {cs : List Nat} {s : CutS} {M k : Nat} (h : PEnd F l st n cs s M) (hk : k + 1 < M) : ndN F l (verS cs (1 + 3 * n) (k + 1)) (if verS cs (1 + 3 * n) k = 0 then 18446744073709551615 else verS cs (1 + 3 * n) k) = true := by
  rw [(now_V h hk).2, (now_V h (show k < M by omega)).2]
  have b1 := (h.lnk k (by omega)).1
  have b2 := (h.lnk (k + 1) hk).1
  have e := itN_succ F l st n b1
  rw [e] at b2 ⊢
  exact (nxt_spec F l st n b1).2.2.2 b2
end
end Go.Proofs.Ytciohnfbjaglbaa
