/- A handle that is read, by the document. -/
import Derived.Test.YtmmaniolaljjlaaGreatDoorSda
import Derived.Laws.Tables
namespace Go.Proofs.YtmmaniolaljjlaaGreatDoor
open Go.RowKit Go.Shelf
set_option linter.unusedVariables false

def AtQ (f : List UInt8) (v : Value) : Prop := ∃ (x : Int) (p : Value), v = .tuple #[.int .i64 x, p] ∧ (-9223372036854775808 ≤ x ∧ x < 9223372036854775808) ∧ ∀ z, Lib.atoiAll f = .ok z → x = z
theorem atoi_each (f : List UInt8) (hf : f.length ≤ 200000000) (w : World) (T : Tb w) :
    Calls Tryz.prog 81 #[.string (mkS f)] w fun e w' => ∃ v, e = .returned v ∧ AtQ f v ∧ Below w.heap.size w w' := by
  cases hp : Lib.atoiAll f with
  | ok u =>
    refine (atoi_ok f hf u hp w).mono ?_
    rintro e w' ⟨rfl, hb⟩
    exact ⟨_, rfl, ⟨u, _, rfl, atoi_range hp, fun v h => by rw [hp] at h; injection h⟩, hb⟩
  | «syntax» =>
    obtain ⟨a, b, h2⟩ := T.es
    refine (Any.strconv_Atoi_syntax_var Tryz.lays172 (mkS f) (by rw [mkS_size]; omega) (by simpa using hp) a b w h2).mono ?_
    rintro e w' ⟨N, rfl, -, -, hb⟩
    exact ⟨_, rfl, ⟨0, _, rfl, by decide, fun v h => by rw [hp] at h; cases h⟩, hb⟩
  | range =>
    obtain ⟨a, b, h2⟩ := T.er
    refine (Any.strconv_Atoi_range_var Tryz.lays172 (mkS f) (by rw [mkS_size]; omega) (by simpa using hp) a b w h2).mono ?_
    rintro e w' ⟨N, rfl, -, -, hb⟩
    exact ⟨_, rfl, ⟨_, _, rfl, by unfold Lib.atoiSat; split <;> decide, fun v h => by rw [hp] at h; cases h⟩, hb⟩


def RfQ (f : List UInt8) (hnd : Nat) (set : Bool) (rt ri : Int) : Prop := isU hnd ∧ isI rt ∧ isI ri ∧ ∀ h s a b, isU h → isI a → isI b → rhB h s a b = true → f = hText h s a b → hnd = h ∧ set = s ∧ rt = a ∧ ri = b
theorem rf_nat {f : List UInt8} {u : Nat} (hn : f.head? ≠ some 64) (hu : isU u) (hz : ∀ z, natP f = some z → u = z) : RfQ f u false 0 0 := by
  refine ⟨hu, ⟨by omega, by omega⟩, ⟨by omega, by omega⟩, fun h s a b hh ha hb hr he => ?_⟩
  cases s with
  | true =>
    exfalso
    have := (hText_head (h := h) (s := true) (a := a) (b := b)).2 rfl
    rw [← he] at this
    exact hn this
  | false =>
    have e2 : f = Lib.decDigits h := he
    have := hz h (by rw [e2]; exact natP_dec h hh)
    simp [rhB] at hr
    exact ⟨this, rfl, hr.1.symm, hr.2.symm⟩
theorem rf_ref {r l q : List UInt8} {x y : Int} (hc : CutP r l q) (hx : isI x) (hy : isI y) (zx : ∀ z, Lib.atoiAll l = .ok z → x = z) (zy : ∀ z, Lib.atoiAll q = .ok z → y = z) : RfQ (64 :: r) 0 true x y := by
  refine ⟨by unfold isU; omega, hx, hy, fun h s a b hh ha hb hr he => ?_⟩
  have hs : s = true := hText_head.1 (by rw [← he]; rfl)
  subst hs
  have e3 : r = Lib.itoa a ++ 46 :: Lib.itoa b := by simpa [hText] using he
  have h0 : h = 0 := by simp [rhB] at hr; exact hr.1
  rcases hc with ⟨rfl, hl⟩ | ⟨hn, _, _⟩
  · obtain ⟨e4, e5⟩ := noB_cutG hl (itoa_dot a) e3
    exact ⟨h0.symm, rfl, zx a (by rw [e4]; exact atoi_itoa a ha.1 ha.2), zy b (by rw [e5]; exact atoi_itoa b hb.1 hb.2)⟩
  · exact absurd rfl (hn 46 (by rw [e3]; simp))
structure RF (W : World) (P R : Nat) (row : Array Value) (wr : World) : Prop where
  bx : wr.heap[P]? = some (.cells row 28 (0, 0))
  rr : wr.heap[R]? = some (.cells (opR 0 0 0 0 0 false 0 0 (.slice none 0 0) 0 0) 28 (0, 0))
  bel : Below W.heap.size W wr
  lp : W.heap.size ≤ P
  lr : W.heap.size ≤ R
  ne : R ≠ P
theorem RF.on {W : World} {P R : Nat} {row : Array Value} {wr X : World} (h : RF W P R row wr) (hb : Below wr.heap.size wr X) : RF W P R row X := ⟨heap_below h.bx hb, heap_below h.rr hb, below_chain h.bel hb, h.lp, h.lr, h.ne⟩
theorem RF.set {W : World} {P R : Nat} {row : Array Value} {wr : World} (h : RF W P R row wr) (i : Nat) (v : Value) : RF W P R (row.setIfInBounds i v) (wr.setCell ⟨P, i, none⟩ v) := ⟨set_of h.bx i v, other_of h.rr h.ne v, h.bel.setCell h.lp _, h.lp, h.lr, h.ne⟩
def RefQ (W : World) (k : Nat) (f : List UInt8) (e : Ending) (W' : World) : Prop := ∃ hnd set rt ri, e = .returned (.agg (opR k 0 0 0 hnd set rt ri (.slice none 0 0) 0 0)) ∧ RfQ f hnd set rt ri ∧ Below W.heap.size W W'
set_option maxRecDepth 100000 in
set_option maxHeartbeats 4000000 in
theorem ref_nat (k : Nat) (f : List UInt8) (hf : f.length ≤ 200000000) (hn : f.head? ≠ some 64) (W : World) (T : Tb W) :
    Calls Tryz.prog 33 #[.agg (opR k 0 0 0 0 false 0 0 (.slice none 0 0) 0 0), .string (mkS f)] W (RefQ W k f) := by
  obtain ⟨w2, hw2⟩ : ∃ w2, w2 = (W.alloc (.cells (opR k 0 0 0 0 false 0 0 (.slice none 0 0) 0 0) 28)).alloc (.cells (opR 0 0 0 0 0 false 0 0 (.slice none 0 0) 0 0) 28) := ⟨_, rfl⟩
  obtain ⟨P, hP⟩ : ∃ P, P = W.heap.size := ⟨_, rfl⟩
  obtain ⟨R, hR⟩ : ∃ R, R = W.heap.size + 1 := ⟨_, rfl⟩
  have hS2 : RF W P R (opR k 0 0 0 0 false 0 0 (.slice none 0 0) 0 0) w2 := by
    rw [hw2, hP, hR]
    refine ⟨?_, ?_, (below_alloc _ _).trans ((below_alloc _ _).mono (by simp)), Nat.le_refl _, by omega, by omega⟩
    · rw [Below.heap_alloc _ _ _ (by simp)]
      exact heap_alloc_new _ _
    · have := heap_alloc_new (W.alloc (.cells (opR k 0 0 0 0 false 0 0 (.slice none 0 0) 0 0) 28)) (.cells (opR 0 0 0 0 0 false 0 0 (.slice none 0 0) 0 0) 28)
      simpa using this
  have HS2 := keepH hS2
  have HW2 := keepH hw2
  have HP := keepH hP
  have HR := keepH hR
  have HNU := keepH (dNumber_any f hf w2 (T.on hS2.bel))
  have HN := keepH hn
  have hsz : (mkS f).size = f.length := mkS_size f
  clear hS2 hw2 hP hR T
  cases f with
  | nil =>
    obtain ⟨s, hs⟩ : ∃ s, s = mkS ([] : List UInt8) := ⟨_, rfl⟩
    rw [← hs] at HNU hsz ⊢
    have z0 : ((s.size : Int) == 0) = true := by rw [hsz]; rfl
    clear hs hn hsz
    go_enter Tryz.func33, Tryz.ntmps33
    go_upto_region 1 with fail
    rw [show (W.alloc (.cells (opR k 0 0 0 0 false 0 0 (.slice none 0 0) 0 0) 28)).alloc (.cells #[.int .u8 0, .int .u64 0, .int .u64 0, .int .u64 0, .int .u64 0, .bool false, .int .i64 0, .int .i64 0, .slice none 0 0, .int .u64 0, .int .u64 0] 28) = w2 from HW2.out.symm, ← HR.out, ← HP.out]
    go_wp2_with fail
    refine HNU.out.mono ?_
    rintro e w3 ⟨v, rfl, ⟨u, rfl, huu, huz⟩, B3⟩
    have HQ := keepH (rf_nat HN.out huu huz)
    have HS3 := keepH (HS2.out.on B3)
    have p4 : w3.cell? ⟨P, 4, none⟩ = _ := cell_of HS3.out.bx 4
    have q4 : w3.frozen? ⟨P, 4, none⟩ = false := free_of HS3.out.bx 4
    obtain ⟨w4, hw4⟩ : ∃ w4, w4 = w3.setCell ⟨P, 4, none⟩ (.int .u64 (u : Int)) := ⟨_, rfl⟩
    have HS4 : Hid (RF W P R (opR k 0 0 0 u false 0 0 (.slice none 0 0) 0 0) w4) := keepH (by rw [hw4]; exact HS3.out.set 4 _)
    have HW4 := keepH hw4
    clear huu huz B3 hw4
    go_upto_region 3 with fail
    rw [← HW4.out]
    clear p4 q4
    have d0 : w4.cell? ⟨P, 0, none⟩ = _ := cell_of HS4.out.bx 0
    have d1 : w4.cell? ⟨P, 1, none⟩ = _ := cell_of HS4.out.bx 1
    have d2 : w4.cell? ⟨P, 2, none⟩ = _ := cell_of HS4.out.bx 2
    have d3 : w4.cell? ⟨P, 3, none⟩ = _ := cell_of HS4.out.bx 3
    have d4 : w4.cell? ⟨P, 4, none⟩ = _ := cell_of HS4.out.bx 4
    have d5 : w4.cell? ⟨P, 5, none⟩ = _ := cell_of HS4.out.bx 5
    have d6 : w4.cell? ⟨P, 6, none⟩ = _ := cell_of HS4.out.bx 6
    have d7 : w4.cell? ⟨P, 7, none⟩ = _ := cell_of HS4.out.bx 7
    have d8 : w4.cell? ⟨P, 8, none⟩ = _ := cell_of HS4.out.bx 8
    have d9 : w4.cell? ⟨P, 9, none⟩ = _ := cell_of HS4.out.bx 9
    have d10 : w4.cell? ⟨P, 10, none⟩ = _ := cell_of HS4.out.bx 10
    go_wp2_with (first | (refine wpList_store_row rfl 28 _ _ rfl R (opR k 0 0 0 u false 0 0 (.slice none 0 0) 0 0) rfl rfl 28 (opR 0 0 0 0 0 false 0 0 (.slice none 0 0) 0 0) HS4.out.rr (by kernel_rfl) rfl (by simp [Value.oneCell']) ?_) | fail)
    have hrow := setRow_heap _ R _ (opR k 0 0 0 u false 0 0 (.slice none 0 0) 0 0) 28 (0, 0) HS4.out.rr
    have e0 := cell_of hrow 0
    have e1 := cell_of hrow 1
    have e2 := cell_of hrow 2
    have e3 := cell_of hrow 3
    have e4 := cell_of hrow 4
    have e5 := cell_of hrow 5
    have e6 := cell_of hrow 6
    have e7 := cell_of hrow 7
    have e8 := cell_of hrow 8
    have e9 := cell_of hrow 9
    have e10 := cell_of hrow 10
    simp at e0 e1 e2 e3 e4 e5 e6 e7 e8 e9 e10
    refine bodyPost_ret (v := .agg (opR k 0 0 0 u false 0 0 (.slice none 0 0) 0 0)) (by simp [results, Tryz.results33, go_sem, e0, e1, e2, e3, e4, e5, e6, e7, e8, e9, e10]) rfl ?_
    exact ⟨u, false, 0, 0, rfl, HQ.out, below_setRow HS4.out.bel HS4.out.lr _⟩
  | cons c r =>
    obtain ⟨x, hx, hxi⟩ := idx_str (c :: r) 0 (by simp) 64
    have hx0 : ∀ W, (Instr.index 9 (.string (mkS (c :: r))) (.int .i64 0)).run Tryz.prog W = .ok (.int .u8 (x : Int)) W := fun W => by simpa using hx W
    have hne : ¬ ((x : Int) = 64) := by
      intro e
      have : x = (64 : UInt8).toNat := by
        show x = 64
        omega
      have := hxi.1 this
      simp at this
      exact hn (by simp [this])
    have une : ((x : Int) != 64) = true := by simpa using hne
    obtain ⟨s, hs⟩ : ∃ s, s = mkS (c :: r) := ⟨_, rfl⟩
    rw [← hs] at HNU hsz hx0 ⊢
    have z0 : ((s.size : Int) == 0) = false := by rw [hsz]; simp; omega
    clear hs hn hsz hx hxi
    go_enter Tryz.func33, Tryz.ntmps33
    go_upto_region 1 with fail
    rw [show (W.alloc (.cells (opR k 0 0 0 0 false 0 0 (.slice none 0 0) 0 0) 28)).alloc (.cells #[.int .u8 0, .int .u64 0, .int .u64 0, .int .u64 0, .int .u64 0, .bool false, .int .i64 0, .int .i64 0, .slice none 0 0, .int .u64 0, .int .u64 0] 28) = w2 from HW2.out.symm, ← HR.out, ← HP.out]
    go_wp2_with fail
    refine HNU.out.mono ?_
    rintro e w3 ⟨v, rfl, ⟨u, rfl, huu, huz⟩, B3⟩
    have HQ := keepH (rf_nat HN.out huu huz)
    have HS3 := keepH (HS2.out.on B3)
    have p4 : w3.cell? ⟨P, 4, none⟩ = _ := cell_of HS3.out.bx 4
    have q4 : w3.frozen? ⟨P, 4, none⟩ = false := free_of HS3.out.bx 4
    obtain ⟨w4, hw4⟩ : ∃ w4, w4 = w3.setCell ⟨P, 4, none⟩ (.int .u64 (u : Int)) := ⟨_, rfl⟩
    have HS4 : Hid (RF W P R (opR k 0 0 0 u false 0 0 (.slice none 0 0) 0 0) w4) := keepH (by rw [hw4]; exact HS3.out.set 4 _)
    have HW4 := keepH hw4
    clear huu huz B3 hw4
    go_upto_region 3 with fail
    rw [← HW4.out]
    clear p4 q4
    have d0 : w4.cell? ⟨P, 0, none⟩ = _ := cell_of HS4.out.bx 0
    have d1 : w4.cell? ⟨P, 1, none⟩ = _ := cell_of HS4.out.bx 1
    have d2 : w4.cell? ⟨P, 2, none⟩ = _ := cell_of HS4.out.bx 2
    have d3 : w4.cell? ⟨P, 3, none⟩ = _ := cell_of HS4.out.bx 3
    have d4 : w4.cell? ⟨P, 4, none⟩ = _ := cell_of HS4.out.bx 4
    have d5 : w4.cell? ⟨P, 5, none⟩ = _ := cell_of HS4.out.bx 5
    have d6 : w4.cell? ⟨P, 6, none⟩ = _ := cell_of HS4.out.bx 6
    have d7 : w4.cell? ⟨P, 7, none⟩ = _ := cell_of HS4.out.bx 7
    have d8 : w4.cell? ⟨P, 8, none⟩ = _ := cell_of HS4.out.bx 8
    have d9 : w4.cell? ⟨P, 9, none⟩ = _ := cell_of HS4.out.bx 9
    have d10 : w4.cell? ⟨P, 10, none⟩ = _ := cell_of HS4.out.bx 10
    go_wp2_with (first | (refine wpList_store_row rfl 28 _ _ rfl R (opR k 0 0 0 u false 0 0 (.slice none 0 0) 0 0) rfl rfl 28 (opR 0 0 0 0 0 false 0 0 (.slice none 0 0) 0 0) HS4.out.rr (by kernel_rfl) rfl (by simp [Value.oneCell']) ?_) | fail)
    have hrow := setRow_heap _ R _ (opR k 0 0 0 u false 0 0 (.slice none 0 0) 0 0) 28 (0, 0) HS4.out.rr
    have e0 := cell_of hrow 0
    have e1 := cell_of hrow 1
    have e2 := cell_of hrow 2
    have e3 := cell_of hrow 3
    have e4 := cell_of hrow 4
    have e5 := cell_of hrow 5
    have e6 := cell_of hrow 6
    have e7 := cell_of hrow 7
    have e8 := cell_of hrow 8
    have e9 := cell_of hrow 9
    have e10 := cell_of hrow 10
    simp at e0 e1 e2 e3 e4 e5 e6 e7 e8 e9 e10
    refine bodyPost_ret (v := .agg (opR k 0 0 0 u false 0 0 (.slice none 0 0) 0 0)) (by simp [results, Tryz.results33, go_sem, e0, e1, e2, e3, e4, e5, e6, e7, e8, e9, e10]) rfl ?_
    exact ⟨u, false, 0, 0, rfl, HQ.out, below_setRow HS4.out.bel HS4.out.lr _⟩
end Go.Proofs.YtmmaniolaljjlaaGreatDoor
