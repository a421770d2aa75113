/- The adders are built; the run's start. -/
import Derived.Test.YtmckdefijcnhcacSAddI
import Derived.Test.YtmckdefijcnhcacSLive
namespace Go.Proofs.Ytmckdefijcnhcac
open Go.RowKit Go.Shelf

def adL (ps sl : Nat → Nat) (n : Nat) : List (Value × List Value) := (List.range n).map fun j => (.slice (some ⟨sl j, 0, none⟩) 1 1, [addI (ps j)])
theorem adL_length (ps sl : Nat → Nat) (n : Nat) : (adL ps sl n).length = n := by simp [adL]
theorem adL_get (ps sl : Nat → Nat) (n j : Nat) (hj : j < n) : (adL ps sl n)[j]? = some (.slice (some ⟨sl j, 0, none⟩) 1 1, [addI (ps j)]) := by simp [adL, hj]
theorem adL_more (ps sl : Nat → Nat) (n p q : Nat) : adL (upd ps n p) (upd sl n q) (n + 1) = adL ps sl n ++ [(.slice (some ⟨q, 0, none⟩) 1 1, [addI p])] := by
  unfold adL
  rw [List.range_succ, List.map_append]
  congr 1
  · apply List.map_congr_left
    intro j hj
    have : j < n := List.mem_range.1 hj
    rw [upd_other _ _ _ _ (by omega), upd_other _ _ _ _ (by omega)]
  · simp [upd_same]

structure ABuild (W X : World) (tv : Value) (n : Nat) (ps sl lf : Nat → Nat) : Prop where
  row : X.ownsRow 0 72 1 tv n ((adL ps sl n).map Prod.fst)
  blk : ∀ j, j < n → X.heap[sl j]? = some (.cells #[addI (ps j)] 90 (0, 0))
  ad : ∀ j, j < n → IsAdder X (ps j) (lf j) false 0
  low : ∀ j, j < n → W.heap.size ≤ ps j
  pos : ∀ j, j < n → 0 < lf j
  lf : ∀ j, lf j ≤ 1000
  pp : ∀ i j, i < n → j < n → i ≠ j → ps i ≠ ps j
  own : ∀ k, tv.ownBlock = some k → W.heap.size ≤ k
  chg : Chg (fun _ => False) W X

theorem ABuild.start (W : World) : ABuild W W (.slice none 0 0) 0 (fun _ => 0) (fun _ => 0) (fun _ => 0) :=
  ⟨World.ownsRow_nil _ _ _ _, fun j hj => by omega, fun j hj => by omega, fun j hj => by omega, fun j hj => by omega, fun j => by omega, fun i j hi => by omega, fun k e => by simp [Value.ownBlock] at e, Chg.refl _ _⟩

theorem ABuild.more {W X Y : World} {tv v' : Value} {n k g : Nat} {ps sl lf : Nat → Nat} (h : ABuild W X tv n ps sl lf) (hg : g = X.heap.size) (hk : k < 50)
    (hr : Y.ownsRow 0 72 1 v' (n + 1) ((adL ps sl n).map Prod.fst ++ [.slice (some ⟨g + 1, 0, none⟩) 1 1]))
    (hgr : (((X.alloc (.cells #[.int .u64 1, .int .u64 2, .int .i64 ((k + 1 : Nat) : Int), .bool false, .int .u64 0] 71)).alloc (.cells #[addI g] 90)).alloc (.cells #[.slice (some ⟨g + 1, 0, none⟩) 1 1] 72)).grownBy Y tv.ownBlock)
    (ho : ∀ j, v'.ownBlock = some j → tv.ownBlock = some j ∨ X.heap.size ≤ j) : ABuild W Y v' (n + 1) (upd ps n g) (upd sl n (g + 1)) (upd lf n (k + 1)) := by
  subst hg
  obtain ⟨a1, ha1⟩ : ∃ a1, a1 = X.alloc (.cells #[.int .u64 1, .int .u64 2, .int .i64 ((k + 1 : Nat) : Int), .bool false, .int .u64 0] 71) := ⟨_, rfl⟩
  obtain ⟨a2, ha2⟩ : ∃ a2, a2 = a1.alloc (.cells #[addI X.heap.size] 90) := ⟨_, rfl⟩
  obtain ⟨a3, ha3⟩ : ∃ a3, a3 = a2.alloc (.cells #[.slice (some ⟨X.heap.size + 1, 0, none⟩) 1 1] 72) := ⟨_, rfl⟩
  rw [← ha1, ← ha2, ← ha3] at hgr
  have z1 : a1.heap.size = X.heap.size + 1 := by rw [ha1]; simp
  have z2 : a2.heap.size = X.heap.size + 1 + 1 := by rw [ha2]; simp [z1]
  have g1 : a1.heap[X.heap.size]? = some (.cells #[.int .u64 1, .int .u64 2, .int .i64 ((k + 1 : Nat) : Int), .bool false, .int .u64 0] 71 (0, 0)) := by rw [ha1]; exact heap_alloc_new _ _
  have g2 : a2.heap[X.heap.size + 1]? = some (.cells #[addI X.heap.size] 90 (0, 0)) := by rw [ha2, ← z1]; exact heap_alloc_new _ _
  have c3 : Chg (fun _ => False) a2 a3 := by rw [ha3]; exact (Chg.refl _ _).alloc _
  have c2 : Chg (fun _ => False) a1 a3 := by rw [ha2] at c3; exact ((Chg.refl _ a1).alloc _).trans c3 (fun _ _ x => x) (fun _ _ x => x)
  have c1 : Chg (fun _ => False) X a3 := by rw [ha1] at c2; exact ((Chg.refl _ X).alloc _).trans c2 (fun _ _ x => x) (fun _ _ x => x)
  have cY : Chg (fun k => tv.ownBlock = some k) a3 Y := (Chg.refl _ a3).grown hgr (fun k e _ => e)
  have lo : ∀ j, tv.ownBlock = some j → j < X.heap.size := fun j e => row_lt h.row j e
  have cW : Chg (fun k => tv.ownBlock = some k) X Y := c1.trans cY (fun _ _ x => x.elim) (fun _ _ x => x)
  have n1 : Y.heap[X.heap.size]? = some (.cells #[.int .u64 1, .int .u64 2, .int .i64 ((k + 1 : Nat) : Int), .bool false, .int .u64 0] 71 (0, 0)) := (cY.block _ (by have := c2.size; omega) (fun e => by have := lo _ e; omega)).trans ((c2.block _ (by omega) (fun h => h)).trans g1)
  have n2 : Y.heap[X.heap.size + 1]? = some (.cells #[addI X.heap.size] 90 (0, 0)) := (cY.block _ (by have := c3.size; omega) (fun e => by have := lo _ e; omega)).trans ((c3.block _ (by omega) (fun h => h)).trans g2)
  have sW := h.chg.size
  have lps : ∀ j, j < n → ps j < X.heap.size := fun j hj => lt_of (h.ad j hj)
  refine ⟨?_, fun j hj => ?_, fun j hj => ?_, fun j hj => ?_, fun j hj => ?_, fun j => ?_, fun i j hi hj hij => ?_, fun j e => ?_, ?_⟩
  · rw [adL_more]
    simpa using hr
  · by_cases hjn : j = n
    · subst hjn
      rw [upd_same, upd_same]
      exact n2
    · rw [upd_other _ _ _ _ hjn, upd_other _ _ _ _ hjn]
      have hb := h.blk j (by omega)
      exact (cW.block _ (lt_of hb) (block_apart h.row hb (by decide))).trans hb
  · by_cases hjn : j = n
    · subst hjn
      rw [upd_same, upd_same]
      exact n1
    · rw [upd_other _ _ _ _ hjn, upd_other _ _ _ _ hjn]
      have hb := h.ad j (by omega)
      exact hb.chg cW (block_apart h.row hb (by decide))
  · by_cases hjn : j = n
    · subst hjn
      rw [upd_same]
      exact sW
    · rw [upd_other _ _ _ _ hjn]
      exact h.low j (by omega)
  · by_cases hjn : j = n
    · subst hjn
      rw [upd_same]
      omega
    · rw [upd_other _ _ _ _ hjn]
      exact h.pos j (by omega)
  · have := h.lf j
    unfold upd
    split <;> omega
  · by_cases hin : i = n
    · subst hin
      have := lps j (by omega)
      rw [upd_same, upd_other _ _ _ _ (by omega)]
      omega
    · by_cases hjn : j = n
      · subst hjn
        have := lps i (by omega)
        rw [upd_same, upd_other _ _ _ _ hin]
        omega
      · rw [upd_other _ _ _ _ hin, upd_other _ _ _ _ hjn]
        exact h.pp i j (by omega) (by omega) hij
  · rcases ho j e with e | e
    · exact h.own j e
    · omega
  · exact h.chg.trans cW (fun _ _ x => x) (fun j hj e => by have := h.own j e; omega)

theorem ABuild.lists {W X : World} {tv : Value} {n : Nat} {ps sl lf : Nat → Nat} (h : ABuild W X tv n ps sl lf) : Lists X tv (adL ps sl n) := by
  refine ⟨by rw [adL_length]; exact h.row, fun x hx => ?_, fun x hx u hu => ?_⟩
  · simp only [adL, List.mem_map, List.mem_range] at hx
    obtain ⟨j, hj, rfl⟩ := hx
    exact row_of (n := 1) (s := 1) (h.blk j hj) rfl (by omega)
  · simp only [adL, List.mem_map, List.mem_range] at hx
    obtain ⟨j, hj, rfl⟩ := hx
    simp at hu
    subst hu
    rfl
theorem adL_ok (ps sl : Nat → Nat) (n : Nat) (hn : n ≤ 64) : tooLongB (adL ps sl n) = false := by
  simp only [tooLongB, adL_length]
  simp [adL]
  omega

theorem ar_start {W W3 X Y : World} {F G : Nat → Prop} {r m b T : Nat} {ps sl lf : Nat → Nat} {tv0 tv : Value} {ths : List Thr} {vbs : List Nat} {cs : List Nat} {y : Acc} (picks : List Int) (hC : Chg (fun _ => False) W W3) (hm : IsMem W3 m b) (hb : Bank W3 F b 128 3 cs [y]) (hF : ∀ k, F k → W.heap.size ≤ k) (hmW : W.heap.size ≤ m) (nm : ¬ F m)
    (B : ABuild W3 X tv0 T ps sl lf) (M : Made X Y G r m b tv (adL ps sl T) ths vbs T) (hl : ths.length = T) (c7 : cellN cs 1 = 7) (c2 : cellN cs 2 = 0) (hy : y.kind = 5) (hyv : y.vals.length ≤ 2) : ARun W Y r m b T (fun j => vbs.getD j 0) ps picks 0 := by
  have s1 := hC.size
  have s2 := B.chg.size
  have s3 := M.chg.size
  have cY := B.chg.trans M.chg (H := fun _ => False) (fun _ _ x => x) (fun _ _ x => x)
  have lm := hm.lt
  have lF : ∀ k, F k → k < W3.heap.size := by obtain ⟨_, _, B⟩ := hb; exact B.lt
  have lps : ∀ j, j < T → ps j < X.heap.size := fun j hj => lt_of (B.ad j hj)
  have hv : ∀ j, j < T → vbs[j]? = some (vbs.getD j 0) := fun j hj => by
    have : j < vbs.length := by rw [M.vl]; exact hj
    simp [List.getElem?_eq_getElem this]
  have vws := fun j (hj : j < T) => M.views j _ (hv j hj)
  refine ⟨G, inA F m T (fun j => vbs.getD j 0) ps, vwOf vbs, tv, _, _, ths, [], [], ⟨cs, [y], fun _ => 0, lf, fun _ => false, fun _ => 0⟩, M.run, ⟨F, ⟨hb.chg cY (fun _ _ h => h), hm.chg cY (fun h => h), fun i hi => (vws i hi).1, fun i hi => (B.ad i hi).chg M.chg (fun h => h), nm, fun i hi e => ?_, fun i hi e => ?_, fun i hi => ⟨?_, ?_⟩, fun i j hi hj => ?_, fun i j hi hj hij => M.apart i j _ _ hij (hv i hi) (hv j hj), B.pp⟩, rfl⟩, fun j hj e => ?_, hl, fun j t ht => ?_, B.lf, fun j hj => vwOf_get _ _ _ (hv j hj), by simp, ⟨by simp, by simp, by simp, fun j a hj ha => ?_, fun j a a' hj ha ha' => ?_, c7, ?_, fun i => by simp, fun x hx => by simp at hx; subst hx; exact hyv⟩, fun j e => ?_, hC.trans cY (fun _ _ x => x) (fun _ _ x => x)⟩
  · have := lF _ e
    have := (vws i hi).2.1
    omega
  · have := lF _ e
    have := B.low i hi
    omega
  · have := (vws i hi).2.1
    show m ≠ vbs.getD i 0
    omega
  · have := B.low i hi
    omega
  · have := lps j hj
    have := (vws i hi).2.1
    show vbs.getD i 0 ≠ ps j
    omega
  · have hG := M.inG j hj
    rcases e with e | e | ⟨i, hi, e | e⟩
    · have := lF _ e
      omega
    · omega
    · have e : j = vbs.getD i 0 := e
      exact (vws i hi).2.2 (by rw [← e]; exact hj)
    · have := lps i hi
      omega
  · have hj : j < T := by have := (List.getElem?_eq_some_iff.1 ht).1; omega
    obtain ⟨x, hx, e1, e2, e3⟩ := M.thr j t ht
    rw [adL_get _ _ _ _ hj] at hx
    simp at hx
    subst hx
    exact ⟨e1, by omega, fun _ => B.pos j hj⟩
  · have := (List.getElem?_eq_some_iff.1 ha).1
    rw [extN_length] at this
    simp at this
    omega
  · have := (List.getElem?_eq_some_iff.1 ha').1
    rw [extN_length] at this
    simp at this
    omega
  · simp [c2, adds, hy]
  · rcases e with e | e | e | ⟨i, hi, e | e⟩
    · have := M.inG j e
      omega
    · exact hF j e
    · omega
    · have := (vws i hi).2.1
      have e : j = vbs.getD i 0 := e
      omega
    · have := B.low i hi
      omega
end Go.Proofs.Ytmckdefijcnhcac
