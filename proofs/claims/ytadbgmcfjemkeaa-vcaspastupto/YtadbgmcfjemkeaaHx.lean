/- Threads of procs built of threads of calls, and run. -/
import Derived.Test.YtadbgmcfjemkeaaHw
import Derived.WalkKit
namespace Go.Proofs.Ytadbgmcfjemkeaa
open Go.RowKit Go.Shelf
set_option linter.unusedVariables false

def BS (L : List ThrV) (n : Nat) (rm qm cl : Nat → Nat) (σ : Nat → Nat → VP) : Prop := ∀ i t, i < n → L[i]? = some t → rm i = t.ks.length ∧ qm i = t.ks.length ∧ cl i = t.ks.length ∧ ∀ j k, t.ks[j]? = some k → σ i j = k.start
def OB (W X : World) (L : List ThrV) (n : Nat) (tv sv : Value) : Prop := ∃ rv qv rm qm cl pv σ D tg, BL W X n n n tv sv rv qv rm qm cl pv σ D tg ∧ BS L n rm qm cl σ
def IB (W X : World) (L : List ThrV) (n : Nat) (t : ThrV) (k : Nat) (tv sv lv wv : Value) : Prop := ∃ rv qv rm qm cl pv σ D tg, BL W X (n + 1) n n tv sv rv qv rm qm cl pv σ D tg ∧ BS L n rm qm cl σ ∧ rv n = lv ∧ qv n = wv ∧ rm n = k ∧ qm n = k ∧ cl n = k ∧ ∀ j c, j < k → t.ks[j]? = some c → σ n j = c.start
section
variable {W X : World} {L : List ThrV} {n : Nat} {t : ThrV} {k : Nat} {tv sv lv wv : Value}
theorem OB.start (W : World) (L : List ThrV) : OB W W L 0 (.slice none 0 0) (.slice none 0 0) := ⟨fun _ => .slice none 0 0, fun _ => .slice none 0 0, fun _ => 0, fun _ => 0, fun _ => 0, fun _ _ => .slice none 0 0, fun _ _ => .inr (.inr (.inr ⟨0, 0, 0, 0, 0, false⟩)), fun _ _ _ => False, fun _ => .none, BL.start _ _ _ _ _ _ _ _ _ _, fun i t hi => by omega⟩
theorem OB.chg (h : OB W X L n tv sv) : Chg (fun _ => False) W X := by
  obtain ⟨rv, qv, rm, qm, cl, pv, σ, D, tg, B, _⟩ := h
  exact B.chg
theorem IB.chg (h : IB W X L n t k tv sv lv wv) : Chg (fun _ => False) W X := by
  obtain ⟨rv, qv, rm, qm, cl, pv, σ, D, tg, B, _⟩ := h
  exact B.chg
theorem OB.row (h : OB W X L n tv sv) (t : ThrV) : IB W X L n t 0 tv sv (.slice none 0 0) (.slice none 0 0) := by
  obtain ⟨rv, qv, rm, qm, cl, pv, σ, D, tg, B, S⟩ := h
  refine ⟨_, _, _, _, _, _, _, _, _, B.row (Nat.le_refl n) (Nat.le_refl n), fun i t hi ht => ?_, updN_same _ _ _, updN_same _ _ _, updN_same _ _ _, updN_same _ _ _, updN_same _ _ _, fun j c hj => by omega⟩
  rw [updN_other _ _ _ _ (by omega), updN_other _ _ _ _ (by omega), updN_other _ _ _ _ (by omega)]
  exact S i t hi ht
theorem OB.outer (h : OB W X L n tv sv) : (∃ vals, X.ownsRow 0 77 1 tv n vals) ∧ ∃ vals, X.ownsRow 0 47 1 sv n vals := by
  obtain ⟨rv, qv, rm, qm, cl, pv, σ, D, tg, B, _⟩ := h
  exact ⟨⟨_, B.outer⟩, _, B.outer2⟩
theorem IB.use (h : IB W X L n t k tv sv lv wv) : ∃ xs ys, X.ownsRow 0 79 1 lv k xs ∧ X.ownsRow 0 58 6 wv k ys ∧ ∀ Y pw s Dn Y', PNew X Y pw s Dn → (∀ c, t.ks[k]? = some c → s = c.start) → Chg (fun _ => False) Y Y' → Y'.ownsRow 0 58 6 wv k ys ∧ ∀ ob Z v2, Z.ownsRow 0 58 6 v2 (k + 1) (ys ++ prOf pw) → (Y'.alloc ob).grownBy Z wv.ownBlock → (∀ b, v2.ownBlock = some b → wv.ownBlock = some b ∨ Y'.heap.size ≤ b) →
    Z.ownsRow 0 79 1 lv k xs ∧ ∀ ob' Z' v1, Z'.ownsRow 0 79 1 v1 (k + 1) (xs ++ [pw]) → (Z.alloc ob').grownBy Z' lv.ownBlock → (∀ b, v1.ownBlock = some b → lv.ownBlock = some b ∨ Z.heap.size ≤ b) → IB W Z' L n t (k + 1) tv sv v1 v2 := by
  obtain ⟨rv, qv, rm, qm, cl, pv, σ, D, tg, B, S, e1, e2, e3, e4, e5, hs⟩ := h
  have hin := B.inner n (Nat.lt_succ_self n)
  have hin2 := B.inner2 n (Nat.lt_succ_self n)
  rw [e1, e3] at hin
  rw [e2, e4] at hin2
  refine ⟨_, _, hin, hin2, fun Y pw s Dn Y' P hst cY => ?_⟩
  have B1 := (B.proc n (Nat.lt_succ_self n) P).quiet cY
  have eold : (List.range k).map (updN pv n (updN (pv n) (cl n) pw) n) = (List.range k).map (pv n) := by rw [updN_same]; exact range_map_upd _ _ _ _ (by omega)
  have eold2 : prRow (updN pv n (updN (pv n) (cl n) pw) n) k = prRow (pv n) k := by rw [updN_same]; exact prRow_upd _ _ _ _ (by omega)
  have enew : updN pv n (updN (pv n) (cl n) pw) n k = pw := by rw [updN_same, e5, updN_same]
  have i2 := B1.inner2 n (Nat.lt_succ_self n)
  rw [e2, e4, eold2] at i2
  refine ⟨i2, fun ob Z v2 hr hg ho => ?_⟩
  have B2 := B1.rowApp2 (Z := Z) (ob := ob) (v' := v2) n (Nat.lt_succ_self n) (Nat.le_refl n) (by rw [updN_same]; omega) (by rw [e4, eold2, enew]; exact hr) (by rw [e2]; exact hg) (by rw [e2]; exact ho)
  have i1 := B2.inner n (Nat.lt_succ_self n)
  rw [e1, e3, eold] at i1
  refine ⟨i1, fun ob' Z' v1 hr' hg' ho' => ?_⟩
  have B3 := B2.rowApp (Z := Z') (ob := ob') (v' := v1) n (Nat.lt_succ_self n) (Nat.le_refl n) (by rw [updN_same]; omega) (by rw [e3, eold, enew]; exact hr') (by rw [e1]; exact hg') (by rw [e1]; exact ho')
  refine ⟨_, _, _, _, _, _, _, _, _, B3, fun i t hi ht => ?_, updN_same _ _ _, updN_same _ _ _, by rw [updN_same, e3], by rw [updN_same, e4], by rw [updN_same, e5], fun j c hj hc => ?_⟩
  · rw [updN_other _ _ _ _ (by omega), updN_other _ _ _ _ (by omega), updN_other _ _ _ _ (by omega), updN_other _ _ _ _ (by omega)]
    exact S i t hi ht
  · rw [updN_same]
    by_cases e : j = k
    · subst e
      rw [e5, updN_same]
      exact hst c hc
    · rw [updN_other _ _ _ _ (by omega)]
      exact hs j c (by omega) hc
theorem IB.close (h : IB W X L n t t.ks.length tv sv lv wv) (ht : L[n]? = some t) : ∃ vals ws, X.ownsRow 0 47 1 sv n ws ∧ ∀ ob Z v2, Z.ownsRow 0 47 1 v2 (n + 1) (ws ++ [wv]) → (X.alloc ob).grownBy Z sv.ownBlock → (∀ b, v2.ownBlock = some b → sv.ownBlock = some b ∨ X.heap.size ≤ b) →
    Z.ownsRow 0 77 1 tv n vals ∧ ∀ ob' Z' v1, Z'.ownsRow 0 77 1 v1 (n + 1) (vals ++ [lv]) → (Z.alloc ob').grownBy Z' tv.ownBlock → (∀ b, v1.ownBlock = some b → tv.ownBlock = some b ∨ Z.heap.size ≤ b) → OB W Z' L (n + 1) v1 v2 := by
  obtain ⟨rv, qv, rm, qm, cl, pv, σ, D, tg, B, S, e1, e2, e3, e4, e5, hs⟩ := h
  refine ⟨(List.range n).map rv, _, B.outer2, fun ob Z v2 hr hg ho => ?_⟩
  have B2 := B.outApp2 (Z := Z) (ob := ob) (v' := v2) (by rw [e2]; exact hr) hg ho
  refine ⟨B2.outer, fun ob' Z' v1 hr' hg' ho' => ⟨_, _, _, _, _, _, _, _, _, B2.outApp (Z := Z') (ob := ob') (v' := v1) (by rw [e1]; exact hr') hg' ho', fun i t' hi ht' => ?_⟩⟩
  by_cases e : i = n
  · subst e
    rw [ht] at ht'
    simp at ht'
    subst ht'
    exact ⟨e3, e4, e5, fun j k hj => hs j k ((List.getElem?_eq_some_iff.1 hj).1) hj⟩
  · exact S i t' (by omega) ht'
theorem IB.rows (h : IB W X L n t k tv sv lv wv) : (∃ xs, X.ownsRow 0 79 1 lv k xs) ∧ ∃ ys, X.ownsRow 0 58 6 wv k ys := by
  obtain ⟨rv, qv, rm, qm, cl, pv, σ, D, tg, B, S, e1, e2, e3, e4, e5, hs⟩ := h
  have hin := B.inner n (Nat.lt_succ_self n)
  have hin2 := B.inner2 n (Nat.lt_succ_self n)
  rw [e1, e3] at hin
  rw [e2, e4] at hin2
  exact ⟨⟨_, hin⟩, _, hin2⟩
end
/-- A run, so many picks done; what the law keeps of its procs. -/
structure RE (W : World) (m b : Nat) (L : List ThrV) (picks : List Int) (k : Nat) (next : Nat) (cs : List Nat) (ch : Nat → List Nat) (X : World) (sv : Value) (r : Nat) (cl vb : Nat → Nat) (pv : Nat → Nat → Value) (c0 : Cfg VP) (Z : World) (qv : Nat → Value) : Prop where
  run : GRun vcK 16384 m b L.length cl vb pv c0 W Z X (psS L.length sv qv) r picks k
  out : Z.ownsRow 0 47 1 sv L.length ((List.range L.length).map qv)
  inn : ∀ i, i < L.length → Z.ownsRow 0 58 6 (qv i) (cl i) (prRow (pv i) (cl i))
  len : ∀ i t, L[i]? = some t → cl i = t.ks.length
  sg : ∀ i j t q, L[i]? = some t → t.ks[j]? = some q → c0.σ i j = q.start
  inv : VInv L.length cl c0 ch (fun _ => (L.length, 0))
  cn : c0.next = next
  cc : c0.cs = cs
theorem OB.run {W W3 X : World} {L : List ThrV} {tv0 sv : Value} {F : Nat → Prop} {m b next : Nat} {cs : List Nat} {l : List Acc} {ch : Nat → List Nat} (picks : List Int) (h : OB W3 X L L.length tv0 sv) (hC : Chg (fun _ => False) W W3) (hm : IsMem W3 m b) (hb : Bank W3 F b 16384 next cs l) (hll : l.length ≤ 16000000) (hF : ∀ k, F k → W.heap.size ≤ k) (hmW : W.heap.size ≤ m) (nm : ¬ F m) (hok : ∀ t ∈ L, ∀ k ∈ t.ks, k.ok ∧ isO k.obj) (h64 : L.length ≤ 64) (h4k : ∀ t ∈ L, t.ks.length ≤ 4096) (hgi : GI next cs ch) :
    ∃ tl, Lists X tv0 tl ∧ tooLongB tl = false ∧ ∀ Y G r tv ths vbs, Made X Y G r m b tv tl ths vbs tl.length → ths.length = tl.length →
      ∃ cl vb pv c0 qv, RE W m b L picks 0 next cs ch Y sv r cl vb pv c0 Y qv := by
  obtain ⟨rv, qv, rm, qm, cl, pv, σ, D, tg, B, S⟩ := h
  have hL : ∀ i, i < L.length → ∃ t, L[i]? = some t := fun i hi => ⟨_, List.getElem?_eq_getElem hi⟩
  have hst : ∀ i j, i < L.length → j < cl i → ∃ t k, L[i]? = some t ∧ t.ks[j]? = some k ∧ σ i j = k.start := fun i j hi hj => by
    obtain ⟨t, ht⟩ := hL i hi
    obtain ⟨h1, h2, h3, h4⟩ := S i t hi ht
    have hj' : j < t.ks.length := by omega
    exact ⟨t, _, ht, List.getElem?_eq_getElem hj', h4 j _ (List.getElem?_eq_getElem hj')⟩
  have tll : (tlOf L.length rv cl pv).length = L.length := by simp [tlOf]
  refine ⟨tlOf L.length rv cl pv, B.lists (fun i hi => ?_), ?_, fun Y G r tv ths vbs M hl => ?_⟩
  · obtain ⟨t, ht⟩ := hL i hi
    obtain ⟨h1, h2, h3, _⟩ := S i t hi ht
    omega
  · unfold tooLongB
    rw [tll]
    simp only [Bool.or_eq_false_iff, decide_eq_false_iff_not, List.any_eq_false]
    refine ⟨by omega, fun x hx => ?_⟩
    simp only [tlOf, List.mem_map, List.mem_range] at hx
    obtain ⟨i, hi, rfl⟩ := hx
    obtain ⟨t, ht⟩ := hL i hi
    have := h4k t (List.mem_of_getElem? ht)
    have := (S i t hi ht).2.2.1
    simp
    omega
  · rw [tll] at M hl
    refine ⟨cl, _, pv, _, qv, gl_start picks hC hm hb hll hF hmW nm B M hl (fun i j hi hj => ?_), ?_, fun i hi => ?_, fun i t ht => ?_, fun i j t q ht hq => ?_, ⟨hgi, fun i j hi hj => ?_, fun i j hi hj _ => ?_⟩, rfl, rfl⟩
    · obtain ⟨t, k, ht, hk, e⟩ := hst i j hi hj
      rw [e]
      exact CallV.start_ok (hok t (List.mem_of_getElem? ht) k (List.mem_of_getElem? hk)).1
    · exact row_kept B.outer2 fun k e => M.chg.block k (row_lt B.outer2 k e) (fun x => x)
    · obtain ⟨t, ht⟩ := hL i hi
      obtain ⟨h1, h2, h3, _⟩ := S i t hi ht
      have z := B.inner2 i hi
      rw [show qm i = cl i by omega] at z
      exact row_kept z fun k e => M.chg.block k (row_lt z k e) (fun x => x)
    · exact (S i t (List.getElem?_eq_some_iff.1 ht).1 ht).2.2.1
    · exact (S i t (List.getElem?_eq_some_iff.1 ht).1 ht).2.2.2 j q hq
    · obtain ⟨t, k, ht, hk, e⟩ := hst i j hi hj
      show VP.pp _ _ _ _ _ (σ i j)
      rw [e]
      exact (CallV.start_pp (hok t (List.mem_of_getElem? ht) k (List.mem_of_getElem? hk)).2 _ _ _ _ _).1
    · obtain ⟨t, k, ht, hk, e⟩ := hst i j hi hj
      show VP.on (σ i j)
      rw [e]
      exact (CallV.start_pp (hok t (List.mem_of_getElem? ht) k (List.mem_of_getElem? hk)).2 0 [] (fun _ => []) (fun _ => (0, 0)) (0, 0)).2
end Go.Proofs.Ytadbgmcfjemkeaa
