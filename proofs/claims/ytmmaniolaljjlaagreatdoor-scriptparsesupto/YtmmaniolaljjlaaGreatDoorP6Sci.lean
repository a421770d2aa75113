/- How a handle is written. (mkScf.py) -/
import Derived.Test.YtmmaniolaljjlaaGreatDoorP5Scu
namespace Go.Proofs.YtmmaniolaljjlaaGreatDoor
open Go.RowKit Go.Shelf
set_option linter.unusedVariables false

def hText (hnd : Nat) (set : Bool) (rt ri : Int) : List UInt8 := if set then [64] ++ Lib.itoa rt ++ [46] ++ Lib.itoa ri else Lib.decDigits hnd
theorem itoa_len {n : Int} (h : isI n) : (Lib.itoa n).length ≤ 21 := Lib.itoa_length_le n h.1 (by have := h.2; omega)
theorem dec_len {u : Nat} (h : isU u) : (Lib.decDigits u).length ≤ 21 := by
  have := Lib.itoa_nonneg u
  by_cases q : u < 9223372036854775808
  · rw [← this]
    exact itoa_len ⟨by omega, by omega⟩
  · have h20 : ∀ d m : Nat, m < 10 ^ d → 0 < d → (Lib.decDigits m).length ≤ d := by
      intro d
      induction d with
      | zero => intro m _ h; omega
      | succ d ih =>
        intro m hm _
        unfold Lib.decDigits
        split
        · simp
        · rw [List.length_append]
          have hp : 10 ^ (d + 1) = 10 ^ d * 10 := Nat.pow_succ _ _
          have := ih (m / 10) (by omega) (by
            rcases Nat.eq_zero_or_pos d with rfl | h
            · omega
            · exact h)
          simp
          omega
    have := h20 20 u (by unfold isU at h; omega) (by omega)
    omega
set_option maxRecDepth 100000 in
set_option maxHeartbeats 2000000 in
theorem ph_any (k key val old hnd : Nat) (set : Bool) (rt ri : Int) (vk : Value) (lo hi : Nat) (hu : isU hnd) (ha : isI rt) (hb : isI ri) (W : World) (T : Tb W) :
    Calls Tryz.prog 70 #[.agg (opR k key val old hnd set rt ri vk lo hi)] W fun e W' => e = .returned (.string (mkS (hText hnd set rt ri))) ∧ Below W.heap.size W W' := by
  obtain ⟨w1, hw1⟩ : ∃ w1, w1 = W.alloc (.cells (opR k key val old hnd set rt ri vk lo hi) 28) := ⟨_, rfl⟩
  obtain ⟨P, hP⟩ : ∃ P, P = W.heap.size := ⟨_, rfl⟩
  have B1 : Below W.heap.size W w1 := by rw [hw1]; exact below_alloc _ _
  have X1 : w1.heap[P]? = some (.cells (opR k key val old hnd set rt ri vk lo hi) 28 (0, 0)) := by rw [hw1, hP]; exact heap_alloc_new _ _
  have c4 : w1.cell? ⟨P, 4, none⟩ = _ := cell_of X1 4
  have c5 : w1.cell? ⟨P, 5, none⟩ = _ := cell_of X1 5
  have HC6 : Hid (w1.cell? ⟨P, 6, none⟩ = some (.int .i64 rt)) := keepH (cell_of X1 6)
  have HC7 : Hid (w1.cell? ⟨P, 7, none⟩ = some (.int .i64 ri)) := keepH (cell_of X1 7)
  have hi1 := fun w (h : Below w1.heap.size w1 w) => itoa_any rt ha.1 ha.2 w ((T.on B1).on h)
  have hi2 := fun w (h : Below w1.heap.size w1 w) => itoa_any ri hb.1 hb.2 w ((T.on B1).on h)
  have hde := dec_any hnd hu w1 (T.on B1)
  have HW1 := keepH hw1
  have HP := keepH hP
  have HB1 := keepH B1
  cases set with
  | false =>
    obtain ⟨s, hs⟩ : ∃ s, s = mkS (hText hnd false rt ri) := ⟨_, rfl⟩
    have e : mkS (Lib.decDigits hnd) = s := hs.symm
    rw [e] at hde
    rw [← hs]
    clear hs e hw1 hP B1 X1 hi1 hi2 hu ha hb T
    go_enter Tryz.func70, Tryz.ntmps70
    go_upto_region 1 with fail
    rw [← HW1.out, ← HP.out]
    go_wp2_with fail
    refine hde.mono ?_
    rintro e w2 ⟨rfl, D2⟩
    have E2 := below_chain HB1.out D2
    clear D2
    go_wp2_with fail
    go_ret
    exact ⟨by simp, E2⟩
  | true =>
    obtain ⟨s1, hs1⟩ : ∃ s, s = mkS (Lib.itoa rt) := ⟨_, rfl⟩
    obtain ⟨s2, hs2⟩ : ∃ s, s = mkS (Lib.itoa ri) := ⟨_, rfl⟩
    rw [← hs1] at hi1
    rw [← hs2] at hi2
    have l1 := itoa_len ha
    have l2 := itoa_len hb
    have k1 := add_str [64] (Lib.itoa rt) (by simp only [List.length_cons, List.length_nil]; omega)
    have k2 := add_str ([64] ++ Lib.itoa rt) [46] (by simp only [List.length_append, List.length_cons, List.length_nil]; omega)
    have k3 := add_str ([64] ++ Lib.itoa rt ++ [46]) (Lib.itoa ri) (by simp only [List.length_append, List.length_cons, List.length_nil]; omega)
    rw [show mkS [64] = ⟨#[64]⟩ from rfl, ← hs1] at k1
    rw [show mkS [46] = ⟨#[46]⟩ from rfl] at k2
    rw [← hs2] at k3
    obtain ⟨g1, hg1⟩ : ∃ g, g = mkS ([64] ++ Lib.itoa rt) := ⟨_, rfl⟩
    obtain ⟨g2, hg2⟩ : ∃ g, g = mkS ([64] ++ Lib.itoa rt ++ [46]) := ⟨_, rfl⟩
    obtain ⟨g3, hg3⟩ : ∃ g, g = mkS ([64] ++ Lib.itoa rt ++ [46] ++ Lib.itoa ri) := ⟨_, rfl⟩
    rw [← hg1] at k1 k2
    rw [← hg2] at k2 k3
    rw [← hg3] at k3
    have hs : mkS (hText hnd true rt ri) = g3 := hg3.symm
    rw [hs]
    clear hg1 hg2 hg3 l1 l2
    have HI1 := keepH hi1
    have HI2 := keepH hi2
    clear hs hs1 hs2 hw1 hP B1 X1 hi1 hi2 hde hu ha hb T
    go_enter Tryz.func70, Tryz.ntmps70
    go_upto_region 1 with fail
    rw [← HW1.out, ← HP.out]
    go_upto_region 2 with fail
    clear c4 c5
    refine wp_region_held_drew (S := fun w => Below w1.heap.size w1 w) (by kernel_rfl) (below_drewN (Below.refl _ _) 1) ?_
    intro hHeld
    refine wpAnyH_take (i := 0) (v := ?_) rfl (by kernel_rfl) (by kernel_rfl) (by kernel_rfl) (fun _ _ _ h => h) (Or.inl ⟨by rfl, ?_⟩) hHeld ?_
    rotate_left
    · intro w hSw
      (try dsimp only at hSw)
      go_simp
      try with_reducible rfl
    (try simp only [Act.put]); (try simp only [List.setIfInBounds_toArray]); (try simp only [List.getElem_toArray]); (repeat (first | simp only [List.getElem_cons_succ] | simp only [List.getElem_cons_zero])); (repeat (first | simp only [List.set_cons_succ] | simp only [List.set_cons_zero]))
    refine wpAnyH_take (i := 1) (v := ?_) rfl (by kernel_rfl) (by kernel_rfl) (by kernel_rfl) (fun _ _ _ h => h) (Or.inl ⟨by rfl, ?_⟩) hHeld ?_
    rotate_left
    · intro w hSw
      (try dsimp only at hSw)
      go_simp
      try with_reducible rfl
    (try simp only [Act.put]); (try simp only [List.setIfInBounds_toArray]); (try simp only [List.getElem_toArray]); (repeat (first | simp only [List.getElem_cons_succ] | simp only [List.getElem_cons_zero])); (repeat (first | simp only [List.set_cons_succ] | simp only [List.set_cons_zero]))
    refine wpAnyH_take (i := 2) (v := ?_) rfl (by kernel_rfl) (by kernel_rfl) (by kernel_rfl) (fun _ _ _ h => h) (Or.inl ⟨by rfl, ?_⟩) hHeld ?_
    rotate_left
    · intro w hSw
      (try dsimp only at hSw)
      have y6 := cell_below HC6.out hSw
      go_simp
      try with_reducible rfl
    (try simp only [Act.put]); (try simp only [List.setIfInBounds_toArray]); (try simp only [List.getElem_toArray]); (repeat (first | simp only [List.getElem_cons_succ] | simp only [List.getElem_cons_zero])); (repeat (first | simp only [List.set_cons_succ] | simp only [List.set_cons_zero]))
    refine wpAnyH_take (i := 6) (v := ?_) rfl (by kernel_rfl) (by kernel_rfl) (by kernel_rfl) (fun _ _ _ h => h) (Or.inl ⟨by rfl, ?_⟩) hHeld ?_
    rotate_left
    · intro w hSw
      (try dsimp only at hSw)
      go_simp
      try with_reducible rfl
    (try simp only [Act.put]); (try simp only [List.setIfInBounds_toArray]); (try simp only [List.getElem_toArray]); (repeat (first | simp only [List.getElem_cons_succ] | simp only [List.getElem_cons_zero])); (repeat (first | simp only [List.set_cons_succ] | simp only [List.set_cons_zero]))
    refine wpAnyH_take (i := 7) (v := ?_) rfl (by kernel_rfl) (by kernel_rfl) (by kernel_rfl) (fun _ _ _ h => h) (Or.inl ⟨by rfl, ?_⟩) hHeld ?_
    rotate_left
    · intro w hSw
      (try dsimp only at hSw)
      go_simp
      try with_reducible rfl
    (try simp only [Act.put]); (try simp only [List.setIfInBounds_toArray]); (try simp only [List.getElem_toArray]); (repeat (first | simp only [List.getElem_cons_succ] | simp only [List.getElem_cons_zero])); (repeat (first | simp only [List.set_cons_succ] | simp only [List.set_cons_zero]))
    refine wpAnyH_take (i := 8) (v := ?_) rfl (by kernel_rfl) (by kernel_rfl) (by kernel_rfl) (fun _ _ _ h => h) (Or.inl ⟨by rfl, ?_⟩) hHeld ?_
    rotate_left
    · intro w hSw
      (try dsimp only at hSw)
      have y7 := cell_below HC7.out hSw
      go_simp
      try with_reducible rfl
    (try simp only [Act.put]); (try simp only [List.setIfInBounds_toArray]); (try simp only [List.getElem_toArray]); (repeat (first | simp only [List.getElem_cons_succ] | simp only [List.getElem_cons_zero])); (repeat (first | simp only [List.set_cons_succ] | simp only [List.set_cons_zero]))
    refine wpAnyH_ready (rs := [3]) (by kernel_rfl) (by simp) ?_
    refine AllReadyH.cons rfl (fun KK hKK => ?_) AllReadyH.nil
    go_simp
    refine (HI1.out _ hHeld).mono ?_
    rintro e w2 ⟨rfl, D2⟩
    have E2 := below_chain hHeld D2
    clear D2
    refine hKK.out _ _ ?_ (fun hHeld => ?_)
    · exact E2
    clear hKK KK
    (try simp only [Act.put]); (try simp only [List.setIfInBounds_toArray]); (try simp only [List.getElem_toArray]); (repeat (first | simp only [List.getElem_cons_succ] | simp only [List.getElem_cons_zero])); (repeat (first | simp only [List.set_cons_succ] | simp only [List.set_cons_zero]))
    refine wpAnyH_take (i := 4) (v := ?_) rfl (by kernel_rfl) (by kernel_rfl) (by kernel_rfl) (fun _ _ _ h => h) (Or.inl ⟨by rfl, ?_⟩) hHeld ?_
    rotate_left
    · intro w hSw
      (try dsimp only at hSw)
      go_simp
      try with_reducible rfl
    (try simp only [Act.put]); (try simp only [List.setIfInBounds_toArray]); (try simp only [List.getElem_toArray]); (repeat (first | simp only [List.getElem_cons_succ] | simp only [List.getElem_cons_zero])); (repeat (first | simp only [List.set_cons_succ] | simp only [List.set_cons_zero]))
    refine wpAnyH_take (i := 5) (v := ?_) rfl (by kernel_rfl) (by kernel_rfl) (by kernel_rfl) (fun _ _ _ h => h) (Or.inl ⟨by rfl, ?_⟩) hHeld ?_
    rotate_left
    · intro w hSw
      (try dsimp only at hSw)
      go_simp
      try with_reducible rfl
    (try simp only [Act.put]); (try simp only [List.setIfInBounds_toArray]); (try simp only [List.getElem_toArray]); (repeat (first | simp only [List.getElem_cons_succ] | simp only [List.getElem_cons_zero])); (repeat (first | simp only [List.set_cons_succ] | simp only [List.set_cons_zero]))
    refine wpAnyH_ready (rs := [9]) (by kernel_rfl) (by simp) ?_
    refine AllReadyH.cons rfl (fun KK hKK => ?_) AllReadyH.nil
    go_simp
    refine (HI2.out _ hHeld).mono ?_
    rintro e w3 ⟨rfl, D3⟩
    have E3 := below_chain hHeld D3
    have HE3 := keepH E3
    clear D3
    refine hKK.out _ _ ?_ (fun hHeld => ?_)
    · exact E3
    clear hKK KK
    (try simp only [Act.put]); (try simp only [List.setIfInBounds_toArray]); (try simp only [List.getElem_toArray]); (repeat (first | simp only [List.getElem_cons_succ] | simp only [List.getElem_cons_zero])); (repeat (first | simp only [List.set_cons_succ] | simp only [List.set_cons_zero]))
    refine wpAnyH_take (i := 10) (v := ?_) rfl (by kernel_rfl) (by kernel_rfl) (by kernel_rfl) (fun _ _ _ h => h) (Or.inl ⟨by rfl, ?_⟩) hHeld ?_
    rotate_left
    · intro w hSw
      (try dsimp only at hSw)
      go_simp
      try with_reducible rfl
    (try simp only [Act.put]); (try simp only [List.setIfInBounds_toArray]); (try simp only [List.getElem_toArray]); (repeat (first | simp only [List.getElem_cons_succ] | simp only [List.getElem_cons_zero])); (repeat (first | simp only [List.set_cons_succ] | simp only [List.set_cons_zero]))
    refine wpAnyH_take (i := 11) (v := ?_) rfl (by kernel_rfl) (by kernel_rfl) (by kernel_rfl) (fun _ _ _ h => h) (Or.inl ⟨by rfl, ?_⟩) hHeld ?_
    rotate_left
    · intro w hSw
      (try dsimp only at hSw)
      go_simp
      try with_reducible rfl
    (try simp only [Act.put]); (try simp only [List.setIfInBounds_toArray]); (try simp only [List.getElem_toArray]); (repeat (first | simp only [List.getElem_cons_succ] | simp only [List.getElem_cons_zero])); (repeat (first | simp only [List.set_cons_succ] | simp only [List.set_cons_zero]))
    refine wpAnyH_done (by kernel_rfl) ?_ _
    go_simp
    go_wp2_with fail
    go_ret
    exact ⟨by simp, below_chain HB1.out HE3.out⟩
end Go.Proofs.YtmmaniolaljjlaaGreatDoor
/- An operation as a line, by the program. (mkSch.py) -/
namespace Go.Proofs.YtmmaniolaljjlaaGreatDoor
open Go.RowKit Go.Shelf Go.Maps
set_option linter.unusedVariables false

/-- numbers that lie somewhere -/
def KRd (W : World) (p : Option Addr) (xs : List Nat) : Prop :=
  xs = [] ∨ ∃ bk off, p = some ⟨bk, off, none⟩ ∧ bk < W.heap.size ∧ ∀ (i x : Nat), xs[i]? = some x → W.cell? ⟨bk, off + i, none⟩ = some (.int .u64 (x : Int))
theorem KRd.get {W : World} {p : Option Addr} {xs : List Nat} (h : KRd W p xs) (i x : Nat) (hx : xs[i]? = some x) : ∃ bk off, p = some ⟨bk, off, none⟩ ∧ bk < W.heap.size ∧ W.cell? ⟨bk, off + i, none⟩ = some (.int .u64 (x : Int)) := by
  rcases h with rfl | ⟨bk, off, rfl, hb, h⟩
  · simp at hx
  · exact ⟨bk, off, rfl, hb, h i x hx⟩
theorem KRd.on {W X : World} {p : Option Addr} {xs : List Nat} (h : KRd W p xs) (hb : Below W.heap.size W X) : KRd X p xs := by
  rcases h with rfl | ⟨bk, off, rfl, hl, h⟩
  · exact .inl rfl
  · exact .inr ⟨bk, off, rfl, Nat.lt_of_lt_of_le hl hb.size, fun i x hx => cell_below (h i x hx) hb⟩
structure StR (Z : World) (ls : List (List UInt8)) (v : Value) (wr : World) : Prop where
  row : wr.ownsRow 0 9 1 v ls.length (strsRow ls)
  bel : Below Z.heap.size Z wr
  new : ∀ b, v.ownBlock = some b → Z.heap.size ≤ b
theorem StR.on {Z : World} {ls : List (List UInt8)} {v : Value} {wr X : World} (h : StR Z ls v wr) (hb : Below wr.heap.size wr X) : StR Z ls v X :=
  ⟨row_kept h.row fun b hb' => hb.block b (row_lt h.row b hb'), below_chain h.bel hb, h.new⟩
theorem StR.more {Z : World} {ls : List (List UInt8)} {v v' : Value} {w1 w2 : World} {r : List UInt8} {o : Obj} (h : StR Z ls v w1) (hr : w2.ownsRow 0 9 1 v' (ls.length + 1) (strsRow ls ++ [.string (mkS r)])) (hg : (w1.alloc o).grownBy w2 v.ownBlock) (hw : v'.ownBlock = v.ownBlock ∨ v'.ownBlock = some (w1.alloc o).heap.size) : StR Z (ls ++ [r]) v' w2 := by
  have hs := h.bel.size
  refine ⟨?_, (h.bel.alloc hs _).grown hg (by simp; omega) (fun k hk => h.new k hk), ?_⟩
  · rw [List.length_append, strsRow_snoc]
    exact hr
  · intro b hb
    rcases hw with e1 | e1
    · rw [e1] at hb
      exact h.new b hb
    · rw [e1] at hb
      simp at hb
      omega
theorem StR.one (Z w : World) (hb : Below Z.heap.size Z w) (r : List UInt8) : StR Z [r] (.slice (some ⟨w.heap.size, 0, none⟩) 1 1) (w.alloc (.cells #[.string (mkS r)] 9)) :=
  ⟨⟨rfl, .inr ⟨w.heap.size, 1, _, rfl, Nat.zero_le _, heap_alloc_new _ _, Nat.le_refl _, by decide, rfl, rfl⟩⟩, hb.alloc hb.size _, fun b e => by simp [Value.ownBlock] at e; have := hb.size; omega⟩
theorem StR.slice {Z : World} {ls : List (List UInt8)} {v : Value} {wr : World} (h : StR Z ls v wr) (hn : 0 < ls.length) : ∃ g c, v = .slice (some ⟨g, 0, none⟩) ls.length c ∧ g < wr.heap.size ∧ ls.length ≤ c ∧ ∀ (j : Nat) f, ls[j]? = some f → wr.cell? ⟨g, j, none⟩ = some (.string (mkS f)) := by
  have hl := fun k hk => row_lt h.row k hk
  have hc := fun g (hg : v.ownBlock = some g) => h.row.cells (g := g) hg
  rcases h.row.2 with ⟨hv, h0⟩ | ⟨g, cap, cur, hv, _, _, hcap, _⟩
  · omega
  · refine ⟨g, cap, hv, hl g (by rw [hv]; rfl), hcap, fun j f hf => ?_⟩
    have := hc g (by rw [hv]; rfl) j (.string (mkS f)) (by unfold strsRow; rw [List.getElem?_map, hf]; rfl)
    rw [Addr.add_mid] at this
    simpa using this
def numAt (key val old lo hi : Nat) : Nat → Nat
  | 1 => key | 2 => val | 3 => old | 9 => lo | 10 => hi | _ => 0
theorem numAt_cell (k key val old hnd : Nat) (set : Bool) (rt ri : Int) (vk : Value) (lo hi : Nat) : ∀ o ∈ numK k, (opR k key val old hnd set rt ri vk lo hi)[o]? = some (.int .u64 (numAt key val old lo hi o : Int)) := by
  intro o ho
  unfold numK at ho
  split at ho <;> simp at ho
  all_goals (first | (subst ho; rfl) | (rcases ho with rfl | rfl | rfl <;> rfl) | (rcases ho with rfl | rfl <;> rfl))
theorem numAt_u {key val old lo hi : Nat} (h1 : isU key) (h2 : isU val) (h3 : isU old) (h5 : isU lo) (h6 : isU hi) (o : Nat) : isU (numAt key val old lo hi o) := by
  unfold numAt
  split <;> first | assumption | (unfold isU; omega)
def partsO (k key val old hnd : Nat) (set : Bool) (rt ri : Int) (keys : List Nat) (lo hi : Nat) : List (List UInt8) :=
  (([opW k] ++ (if hndK k = true then [hText hnd set rt ri] else [])) ++ (numK k).map (fun o => Lib.decDigits (numAt key val old lo hi o))) ++ (if kysK k = true then keys.map Lib.decDigits else [])
def opT (k key val old hnd : Nat) (set : Bool) (rt ri : Int) (keys : List Nat) (lo hi : Nat) : List UInt8 := Lib.join (partsO k key val old hnd set rt ri keys lo hi) [32]
theorem join_len : ∀ (fs : List (List UInt8)), (∀ f ∈ fs, f.length ≤ 100) → (Lib.join fs [32]).length ≤ 101 * fs.length
  | [], _ => by simp [Lib.join]
  | [a], h => by
    have := h a (by simp)
    simp [Lib.join_one]
    omega
  | a :: b :: r, h => by
    have h1 := h a (by simp)
    have ih := join_len (b :: r) (fun f hf => h f (by simp [hf]))
    rw [join_cc]
    simp only [List.length_append, List.length_cons] at ih ⊢
    omega
theorem opW_len (k : Nat) : (opW k).length ≤ 8 := by
  unfold opW
  by_cases h : k < 11
  · have : k = 0 ∨ k = 1 ∨ k = 2 ∨ k = 3 ∨ k = 4 ∨ k = 5 ∨ k = 6 ∨ k = 7 ∨ k = 8 ∨ k = 9 ∨ k = 10 := by omega
    rcases this with rfl | rfl | rfl | rfl | rfl | rfl | rfl | rfl | rfl | rfl | rfl <;> decide
  · rw [List.getD, List.getElem?_eq_none (by show 11 ≤ k; omega)]
    simp
theorem hText_len {hnd : Nat} {set : Bool} {rt ri : Int} (h4 : isU hnd) (ha : isI rt) (hb : isI ri) : (hText hnd set rt ri).length ≤ 60 := by
  have := itoa_len ha
  have := itoa_len hb
  have := dec_len h4
  unfold hText
  split <;> simp <;> omega
theorem parts_len (k key val old hnd : Nat) (set : Bool) (rt ri : Int) (keys : List Nat) (lo hi : Nat) : (partsO k key val old hnd set rt ri keys lo hi).length ≤ 5 + keys.length := by
  unfold partsO
  have := numK_len k
  split <;> split <;> simp <;> omega
theorem parts_each {k key val old hnd : Nat} {set : Bool} {rt ri : Int} {keys : List Nat} {lo hi : Nat} (h1 : isU key) (h2 : isU val) (h3 : isU old) (h4 : isU hnd) (h5 : isU lo) (h6 : isU hi) (ha : isI rt) (hb : isI ri) (hk : ∀ u ∈ keys, isU u) : ∀ f ∈ partsO k key val old hnd set rt ri keys lo hi, f.length ≤ 100 := by
  intro f hf
  unfold partsO at hf
  simp only [List.mem_append, List.mem_map, List.mem_singleton] at hf
  rcases hf with ((rfl | hf) | ⟨o, _, rfl⟩) | hf
  · have := opW_len k; omega
  · split at hf
    · simp at hf; subst hf; have := hText_len (set := set) h4 ha hb; omega
    · simp at hf
  · have := dec_len (numAt_u h1 h2 h3 h5 h6 o); omega
  · split at hf
    · obtain ⟨u, hu, rfl⟩ := List.mem_map.1 hf
      have := dec_len (hk u hu); omega
    · simp at hf

set_option maxRecDepth 100000 in
set_option maxHeartbeats 8000000 in
theorem print_any (b : Nat) (k key val old hnd : Nat) (set : Bool) (rt ri : Int) (kp : Option Addr) (kc lo hi : Nat) (keys : List Nat) (hk : k < 256) (hh : hasK k = true) (h1 : isU key) (h2 : isU val) (h3 : isU old) (h4 : isU hnd) (h5 : isU lo) (h6 : isU hi) (ha : isI rt) (hb : isI ri) (hks : ∀ u ∈ keys, isU u) (hkl : keys.length ≤ 10000000) (W : World) (hV : IsVoc W b) (hW : Wd W) (T : Tb W) (hK : KRd W kp keys) :
    Calls Tryz.prog 25 #[.map (some b), .agg (opR k key val old hnd set rt ri (.slice kp keys.length kc) lo hi)] W fun e W' => e = .returned (.string (mkS (opT k key val old hnd set rt ri keys lo hi))) ∧ Below W.heap.size W W' := by
  obtain ⟨n, hn⟩ : ∃ n, n = keys.length := ⟨_, rfl⟩
  rw [← hn]
  obtain ⟨w1, hw1⟩ : ∃ w1, w1 = W.alloc (.cells (opR k key val old hnd set rt ri (.slice kp n kc) lo hi) 28) := ⟨_, rfl⟩
  obtain ⟨P, hP⟩ : ∃ P, P = W.heap.size := ⟨_, rfl⟩
  have B1 : Below W.heap.size W w1 := by rw [hw1]; exact below_alloc _ _
  have X1 : w1.heap[P]? = some (.cells (opR k key val old hnd set rt ri (.slice kp n kc) lo hi) 28 (0, 0)) := by rw [hw1, hP]; exact heap_alloc_new _ _
  have HYE := keepH (fields_any b P k hk w1 (hV.on B1) (hW.on B1) (cell_of X1 0) hh)
  have HPH := keepH (fun w (hbe : Below W.heap.size W w) => ph_any k key val old hnd set rt ri (.slice kp n kc) lo hi h4 ha hb w (T.on hbe))
  have HWD := keepH (fun w (hbe : Below W.heap.size W w) => word_any k hk w (hW.on hbe))
  have HNC := keepH (numAt_cell k key val old hnd set rt ri (.slice kp n kc) lo hi)
  have HDE := keepH (fun o w (hbe : Below W.heap.size W w) => dec_any (numAt key val old lo hi o) (numAt_u h1 h2 h3 h5 h6 o) w (T.on hbe))
  have HDK := keepH (fun u (hu : u ∈ keys) w (hbe : Below W.heap.size W w) => dec_any u (hks u hu) w (T.on hbe))
  have HKR := keepH hK
  have HTL := keepH (parts_len k key val old hnd set rt ri keys lo hi)
  have HTE := keepH (parts_each (k := k) (set := set) (keys := keys) h1 h2 h3 h4 h5 h6 ha hb hks)
  have HJN := keepH (fun (bk c : Nat) (fs : List (List UInt8)) (w : World) => join_any bk c fs w)
  have HW1 := keepH hw1
  have HP := keepH hP
  have HB1 := keepH B1
  have HX1 := keepH X1
  have HLE := keepH (numK_len k)
  have HN := keepH hn
  obtain ⟨TT, hTT⟩ : ∃ TT, TT = opT k key val old hnd set rt ri keys lo hi := ⟨_, rfl⟩
  rw [← hTT]
  have HTT := keepH hTT
  obtain ⟨i0, hi0, hz0, hz1, hz2⟩ := info_parts infoStr
  have HI := keepH hi0
  have hn2 : n ≤ 10000000 := by omega
  clear hw1 hP B1 X1 hV hW T hK hTT h1 h2 h3 h4 h5 h6 ha hb hk hh hks hkl hn hi0
  go_enter Tryz.func25, Tryz.ntmps25
  go_upto_region 1 with fail
  rw [← HW1.out, ← HP.out]
  go_wp2_with fail
  refine HYE.out.mono ?_
  rintro e w2 ⟨pp, rfl, hnum, B2⟩
  obtain ⟨m, hm⟩ : ∃ m, m = (numK k).length := ⟨_, rfl⟩
  rw [← hm] at hnum ⊢
  obtain ⟨hd, hhd⟩ : ∃ d, d = hndK k := ⟨_, rfl⟩
  obtain ⟨kb, hkb⟩ : ∃ d, d = kysK k := ⟨_, rfl⟩
  rw [← hhd, ← hkb]
  obtain ⟨w3, hw3⟩ : ∃ w3, w3 = w2.alloc (.cells #[.bool hd, .slice pp m m, .bool kb] 113) := ⟨_, rfl⟩
  obtain ⟨F, hF⟩ : ∃ F, F = w2.heap.size := ⟨_, rfl⟩
  have B3 : Below w2.heap.size w2 w3 := by rw [hw3]; exact below_alloc _ _
  have S3 : FS W P F (opR k key val old hnd set rt ri (.slice kp n kc) lo hi) #[.bool hd, .slice pp m m, .bool kb] (.slice pp m m) (numK k) w3 := by
    have hx := (Array.getElem?_eq_some_iff.1 HX1.out).1
    refine ⟨heap_below (heap_below HX1.out B2) B3, by rw [hw3, hF]; exact heap_alloc_new _ _, ?_, below_chain (below_chain HB1.out B2) B3, by rw [HP.out]; exact Nat.le_refl _, ?_⟩
    · rcases hnum with h | ⟨g, q1, q2, q3⟩
      · exact .inl h
      · exact .inr ⟨g, q1, by omega, heap_below q3 B3⟩
    · have := B2.size
      omega
  have HS3 := keepH S3
  have HW3 := keepH hw3
  have HFF := keepH hF
  have HM := keepH hm
  have HHD := keepH hhd
  have HKB := keepH hkb
  have hm3 : m ≤ 3 := by rw [hm]; exact HLE.out
  clear hnum B2 B3 S3 hw3 hF hm hhd hkb
  go_upto_region 2 with fail
  rw [← HW3.out, ← HFF.out]
  have c0 : w3.cell? ⟨P, 0, none⟩ = _ := HS3.out.cells rfl
  go_wp2_with fail
  refine (HWD.out w3 HS3.out.bel).mono ?_
  rintro e wx ⟨rfl, hwx⟩
  rw [hwx]
  clear c0 hwx
  obtain ⟨s0, hs0⟩ : ∃ s, s = mkS (opW k) := ⟨_, rfl⟩
  rw [← hs0]
  obtain ⟨w4, hw4⟩ : ∃ w4, w4 = w3.alloc (.cells #[.string s0] 9) := ⟨_, rfl⟩
  have HR4 : Hid (StR w3 [opW k] (.slice (some ⟨w3.heap.size, 0, none⟩) 1 1) w4) := keepH (by rw [hw4, hs0]; exact StR.one w3 w3 (Below.refl _ _) (opW k))
  have HW4 := keepH hw4
  clear hw4 hs0
  go_upto_region 3 with fail
  rw [← HW4.out]
  have f0 : w4.cell? ⟨F, 0, none⟩ = some (.bool hd) := cell_of (HS3.out.on HR4.out.bel).fld 0
  cases hd with
  | false =>
    have hkb0 : kb = false := by
      rw [HKB.out]
      have := HHD.out
      unfold hndK at this
      unfold kysK
      simp at this ⊢
      omega
    subst hkb0
    go_upto_region 5 with fail
    clear f0
    have f1 : w4.cell? ⟨F, 1, none⟩ = some (.slice pp m m) := cell_of (HS3.out.on HR4.out.bel).fld 1
    obtain ⟨pre, hpre⟩ : ∃ pre, pre = [opW k] := ⟨_, rfl⟩
    have HR5 : Hid (StR w3 pre (.slice (some ⟨w3.heap.size, 0, none⟩) 1 1) w4) := keepH (by rw [hpre]; exact HR4.out)
    have hpl : pre.length ≤ 2 := by rw [hpre]; simp
    have HPRE := keepH hpre
    clear hpre
    go_wp2_with fail
    clear f1
    go_loopw [7, 31] (fun v s wr => ∃ i : Nat, i ≤ m ∧ s = .int .i64 (i : Int) ∧ Hid (StR w3 (pre ++ ((numK k).take i).map (fun o => Lib.decDigits (numAt key val old lo hi o))) v wr)) (fun _ s _ => m - (intOf s).toNat)
    case atStart => exact ⟨0, by omega, rfl, keepH (by simpa using HR5.out)⟩
    case round =>
      obtain ⟨i, him, rfl, HR⟩ := hrel
      have HSR := keepH (HS3.out.on HR.out.bel)
      by_cases hlt : i < m
      · have t1 : (i : Int) < (m : Int) := by omega
        have t0 : (0 : Int) ≤ (i : Int) := by omega
        obtain ⟨o, ho⟩ : ∃ o, (numK k)[i]? = some o := ⟨(numK k)[i]'(by have := HM.out; omega), List.getElem?_eq_getElem _⟩
        obtain ⟨g, rfl, p0⟩ := HSR.out.ptr ho
        have p1 : wr.cell? ⟨P, o, none⟩ = _ := HSR.out.cells (HNC.out o (List.mem_of_getElem? ho))
        have hde := HDE.out o wr HSR.out.bel
        obtain ⟨nu, hnu⟩ : ∃ x, x = numAt key val old lo hi o := ⟨_, rfl⟩
        obtain ⟨ls, hls⟩ : ∃ ls, ls = pre ++ ((numK k).take i).map (fun o => Lib.decDigits (numAt key val old lo hi o)) := ⟨_, rfl⟩
        have HLN : Hid (pre ++ ((numK k).take (i + 1)).map (fun o => Lib.decDigits (numAt key val old lo hi o)) = ls ++ [Lib.decDigits nu]) := keepH (by rw [hls, hnu, List.take_add_one, ho]; simp)
        have hll : ls.length ≤ 6 := by rw [hls]; simp; omega
        have HR6 := keepH HR.out
        rw [← hls] at HR6
        rw [← hnu] at p1 hde
        obtain ⟨fl, hfl⟩ : ∃ fl, fl = ls.length := ⟨_, rfl⟩
        have hfl2 : fl ≤ 6 := by omega
        have HFL := keepH hfl
        have HDE2 := keepH hde
        clear hls hnu ho hll hfl hde
        go_wp2_with fail
        refine HDE2.out.mono ?_
        rintro e w6 ⟨rfl, D6⟩
        obtain ⟨sd, hsd⟩ : ∃ s, s = mkS (Lib.decDigits nu) := ⟨_, rfl⟩
        rw [← hsd]
        have HSD := keepH hsd
        have HR7 := keepH (HR6.out.on D6)
        have HRW : Hid (w6.ownsRow 0 9 1 u7 fl (strsRow ls)) := keepH (by rw [HFL.out]; exact HR7.out.row)
        have hi0 := HI.out
        clear D6 hsd p0 p1
        go_wp2_with (first | (at_builtin; refine wpList_append_own_at _ rfl (.tmp 35) (.tmp 40) 67 rfl 0 9 i0 (.string ⟨#[]⟩) 1 16 Tryz.underlying67 hi0 hz0 hz1 hz2 rfl (by decide) u7 fl (strsRow ls) rfl (HRW.out.alloc _) ⟨w6.heap.size, 0, none⟩ 1 1 [.string sd] rfl rfl (cells_newR _ _ rfl _ _) (by intro u hu; simp at hu; rcases hu with rfl; rfl) (by unfold maxLen; omega) (by omega) (Nat.zero_le _) ?_; intro v2 w9 r1 r2 r3 r4; have R1 := keepH r1; have R2 := keepH r2; have R4 := keepH r4; clear r1 r2 r3 r4) | go_in)
        have HNX := keepH (HR7.out.more (r := Lib.decDigits nu) (by rw [← HSD.out, ← HFL.out]; exact R1.out) R2.out R4.out)
        rw [← HLN.out] at HNX
        go_roundw
        case rel => exact ⟨i + 1, by omega, by first | rfl | go_num, HNX⟩
        case measure => simp [intOf]; omega
      · obtain rfl : i = m := by omega
        have t1 : ¬ (i : Int) < (i : Int) := by omega
        have hf := HR.out
        rw [HM.out, List.take_length] at hf
        obtain ⟨ls, hls⟩ : ∃ ls, ls = pre ++ (numK k).map (fun o => Lib.decDigits (numAt key val old lo hi o)) := ⟨_, rfl⟩
        rw [← hls] at hf
        have HF2 := keepH hf
        have hll : ls.length ≤ 6 := by rw [hls]; have := HLE.out; simp; omega
        have HLS : Hid (ls = ([opW k]) ++ (numK k).map (fun o => Lib.decDigits (numAt key val old lo hi o))) := keepH (by rw [hls, HPRE.out])
        have f2 : wr.cell? ⟨F, 2, none⟩ = some (.bool false) := cell_of HSR.out.fld 2
        clear hf hls
        have hLS : ls = partsO k key val old hnd set rt ri keys lo hi := by rw [HLS.out]; unfold partsO; rw [← HHD.out, ← HKB.out]; simp
        have HLS2 := keepH hLS
        clear hLS
        go_upto_region 16 with fail
        clear f2
        obtain ⟨g9, c9, hv9, hg9, hc9, hcl9⟩ := HF2.out.slice (by rw [HLS2.out]; unfold partsO; simp)
        have hjn := HJN.out g9 c9 _ wr hcl9 hg9 (by have := HTL.out; have := HN.out; rw [HLS2.out]; omega) hc9 (by rw [HLS2.out]; have := join_len _ HTE.out; have := HTL.out; have := HN.out; omega)
        rw [HLS2.out] at hjn hv9
        rw [show Lib.join (partsO k key val old hnd set rt ri keys lo hi) [32] = TT from HTT.out.symm] at hjn
        subst hv9
        have HJ2 := keepH hjn
        have HBZ := keepH (below_chain HS3.out.bel HF2.out.bel)
        obtain ⟨np, hnp⟩ : ∃ np, np = (partsO k key val old hnd set rt ri keys lo hi).length := ⟨_, rfl⟩
        rw [← hnp] at HJ2 ⊢
        clear hjn hcl9 hc9 hg9 hnp
        go_wp2_with fail
        refine HJ2.out.mono ?_
        rintro e wz ⟨rfl, Dz⟩
        have HDZ := keepH (below_chain HBZ.out Dz)
        clear Dz
        go_wp2_with fail
        go_ret
        exact ⟨by simp, HDZ.out⟩
  | true =>
    have c0 : w4.cell? ⟨P, 0, none⟩ = _ := (HS3.out.on HR4.out.bel).cells rfl
    have c1 : w4.cell? ⟨P, 1, none⟩ = _ := (HS3.out.on HR4.out.bel).cells rfl
    have c2 : w4.cell? ⟨P, 2, none⟩ = _ := (HS3.out.on HR4.out.bel).cells rfl
    have c3 : w4.cell? ⟨P, 3, none⟩ = _ := (HS3.out.on HR4.out.bel).cells rfl
    have c4 : w4.cell? ⟨P, 4, none⟩ = _ := (HS3.out.on HR4.out.bel).cells rfl
    have c5 : w4.cell? ⟨P, 5, none⟩ = _ := (HS3.out.on HR4.out.bel).cells rfl
    have c6 : w4.cell? ⟨P, 6, none⟩ = _ := (HS3.out.on HR4.out.bel).cells rfl
    have c7 : w4.cell? ⟨P, 7, none⟩ = _ := (HS3.out.on HR4.out.bel).cells rfl
    have c8 : w4.cell? ⟨P, 8, none⟩ = _ := (HS3.out.on HR4.out.bel).cells rfl
    have c9 : w4.cell? ⟨P, 9, none⟩ = _ := (HS3.out.on HR4.out.bel).cells rfl
    have c10 : w4.cell? ⟨P, 10, none⟩ = _ := (HS3.out.on HR4.out.bel).cells rfl
    go_wp2_with fail
    refine (HPH.out w4 (below_chain HS3.out.bel HR4.out.bel)).mono ?_
    rintro e w5 ⟨rfl, D5⟩
    obtain ⟨sh, hsh⟩ : ∃ s, s = mkS (hText hnd set rt ri) := ⟨_, rfl⟩
    rw [← hsh]
    have HSH := keepH hsh
    have HR5a := keepH (HR4.out.on D5)
    have hi0 := HI.out
    have HRWa : Hid (w5.ownsRow 0 9 1 (.slice (some ⟨w3.heap.size, 0, none⟩) 1 1) 1 (strsRow [opW k])) := keepH HR5a.out.row
    clear D5 hsh f0 c0 c1 c2 c3 c4 c5 c6 c7 c8 c9 c10
    go_upto_region 5 with (first | (at_builtin; refine wpList_append_own_at _ rfl (.tmp 23) (.tmp 26) 67 rfl 0 9 i0 (.string ⟨#[]⟩) 1 16 Tryz.underlying67 hi0 hz0 hz1 hz2 rfl (by decide) (.slice (some ⟨w3.heap.size, 0, none⟩) 1 1) 1 (strsRow [opW k]) rfl (HRWa.out.alloc _) ⟨w5.heap.size, 0, none⟩ 1 1 [.string sh] rfl rfl (cells_newR _ _ rfl _ _) (by intro u hu; simp at hu; rcases hu with rfl; rfl) (by unfold maxLen; omega) (by omega) (Nat.zero_le _) ?_; intro v2 w9 r1 r2 r3 r4; have R1 := keepH r1; have R2 := keepH r2; have R4 := keepH r4; clear r1 r2 r3 r4) | go_in)
    have HR5b := keepH (HR5a.out.more (r := hText hnd set rt ri) (by rw [← HSH.out]; exact R1.out) R2.out R4.out)
    clear hi0
    cases kb with
    | false =>
      have f1 : w9.cell? ⟨F, 1, none⟩ = some (.slice pp m m) := cell_of (HS3.out.on HR5b.out.bel).fld 1
      obtain ⟨pre, hpre⟩ : ∃ pre, pre = [opW k] ++ [hText hnd set rt ri] := ⟨_, rfl⟩
      have HR5 : Hid (StR w3 pre (v2) w9) := keepH (by rw [hpre]; exact HR5b.out)
      have hpl : pre.length ≤ 2 := by rw [hpre]; simp
      have HPRE := keepH hpre
      clear hpre
      go_wp2_with fail
      clear f1
      go_loopw [7, 31] (fun v s wr => ∃ i : Nat, i ≤ m ∧ s = .int .i64 (i : Int) ∧ Hid (StR w3 (pre ++ ((numK k).take i).map (fun o => Lib.decDigits (numAt key val old lo hi o))) v wr)) (fun _ s _ => m - (intOf s).toNat)
      case atStart => exact ⟨0, by omega, rfl, keepH (by simpa using HR5.out)⟩
      case round =>
        obtain ⟨i, him, rfl, HR⟩ := hrel
        have HSR := keepH (HS3.out.on HR.out.bel)
        by_cases hlt : i < m
        · have t1 : (i : Int) < (m : Int) := by omega
          have t0 : (0 : Int) ≤ (i : Int) := by omega
          obtain ⟨o, ho⟩ : ∃ o, (numK k)[i]? = some o := ⟨(numK k)[i]'(by have := HM.out; omega), List.getElem?_eq_getElem _⟩
          obtain ⟨g, rfl, p0⟩ := HSR.out.ptr ho
          have p1 : wr.cell? ⟨P, o, none⟩ = _ := HSR.out.cells (HNC.out o (List.mem_of_getElem? ho))
          have hde := HDE.out o wr HSR.out.bel
          obtain ⟨nu, hnu⟩ : ∃ x, x = numAt key val old lo hi o := ⟨_, rfl⟩
          obtain ⟨ls, hls⟩ : ∃ ls, ls = pre ++ ((numK k).take i).map (fun o => Lib.decDigits (numAt key val old lo hi o)) := ⟨_, rfl⟩
          have HLN : Hid (pre ++ ((numK k).take (i + 1)).map (fun o => Lib.decDigits (numAt key val old lo hi o)) = ls ++ [Lib.decDigits nu]) := keepH (by rw [hls, hnu, List.take_add_one, ho]; simp)
          have hll : ls.length ≤ 6 := by rw [hls]; simp; omega
          have HR6 := keepH HR.out
          rw [← hls] at HR6
          rw [← hnu] at p1 hde
          obtain ⟨fl, hfl⟩ : ∃ fl, fl = ls.length := ⟨_, rfl⟩
          have hfl2 : fl ≤ 6 := by omega
          have HFL := keepH hfl
          have HDE2 := keepH hde
          clear hls hnu ho hll hfl hde
          go_wp2_with fail
          refine HDE2.out.mono ?_
          rintro e w6 ⟨rfl, D6⟩
          obtain ⟨sd, hsd⟩ : ∃ s, s = mkS (Lib.decDigits nu) := ⟨_, rfl⟩
          rw [← hsd]
          have HSD := keepH hsd
          have HR7 := keepH (HR6.out.on D6)
          have HRW : Hid (w6.ownsRow 0 9 1 u7 fl (strsRow ls)) := keepH (by rw [HFL.out]; exact HR7.out.row)
          have hi0 := HI.out
          clear D6 hsd p0 p1
          go_wp2_with (first | (at_builtin; refine wpList_append_own_at _ rfl (.tmp 35) (.tmp 40) 67 rfl 0 9 i0 (.string ⟨#[]⟩) 1 16 Tryz.underlying67 hi0 hz0 hz1 hz2 rfl (by decide) u7 fl (strsRow ls) rfl (HRW.out.alloc _) ⟨w6.heap.size, 0, none⟩ 1 1 [.string sd] rfl rfl (cells_newR _ _ rfl _ _) (by intro u hu; simp at hu; rcases hu with rfl; rfl) (by unfold maxLen; omega) (by omega) (Nat.zero_le _) ?_; intro v2 w9 r1 r2 r3 r4; have R1 := keepH r1; have R2 := keepH r2; have R4 := keepH r4; clear r1 r2 r3 r4) | go_in)
          have HNX := keepH (HR7.out.more (r := Lib.decDigits nu) (by rw [← HSD.out, ← HFL.out]; exact R1.out) R2.out R4.out)
          rw [← HLN.out] at HNX
          go_roundw
          case rel => exact ⟨i + 1, by omega, by first | rfl | go_num, HNX⟩
          case measure => simp [intOf]; omega
        · obtain rfl : i = m := by omega
          have t1 : ¬ (i : Int) < (i : Int) := by omega
          have hf := HR.out
          rw [HM.out, List.take_length] at hf
          obtain ⟨ls, hls⟩ : ∃ ls, ls = pre ++ (numK k).map (fun o => Lib.decDigits (numAt key val old lo hi o)) := ⟨_, rfl⟩
          rw [← hls] at hf
          have HF2 := keepH hf
          have hll : ls.length ≤ 6 := by rw [hls]; have := HLE.out; simp; omega
          have HLS : Hid (ls = ([opW k] ++ [hText hnd set rt ri]) ++ (numK k).map (fun o => Lib.decDigits (numAt key val old lo hi o))) := keepH (by rw [hls, HPRE.out])
          have f2 : wr.cell? ⟨F, 2, none⟩ = some (.bool false) := cell_of HSR.out.fld 2
          clear hf hls
          have hLS : ls = partsO k key val old hnd set rt ri keys lo hi := by rw [HLS.out]; unfold partsO; rw [← HHD.out, ← HKB.out]; simp
          have HLS2 := keepH hLS
          clear hLS
          go_upto_region 16 with fail
          clear f2
          obtain ⟨g9, c9, hv9, hg9, hc9, hcl9⟩ := HF2.out.slice (by rw [HLS2.out]; unfold partsO; simp)
          have hjn := HJN.out g9 c9 _ wr hcl9 hg9 (by have := HTL.out; have := HN.out; rw [HLS2.out]; omega) hc9 (by rw [HLS2.out]; have := join_len _ HTE.out; have := HTL.out; have := HN.out; omega)
          rw [HLS2.out] at hjn hv9
          rw [show Lib.join (partsO k key val old hnd set rt ri keys lo hi) [32] = TT from HTT.out.symm] at hjn
          subst hv9
          have HJ2 := keepH hjn
          have HBZ := keepH (below_chain HS3.out.bel HF2.out.bel)
          obtain ⟨np, hnp⟩ : ∃ np, np = (partsO k key val old hnd set rt ri keys lo hi).length := ⟨_, rfl⟩
          rw [← hnp] at HJ2 ⊢
          clear hjn hcl9 hc9 hg9 hnp
          go_wp2_with fail
          refine HJ2.out.mono ?_
          rintro e wz ⟨rfl, Dz⟩
          have HDZ := keepH (below_chain HBZ.out Dz)
          clear Dz
          go_wp2_with fail
          go_ret
          exact ⟨by simp, HDZ.out⟩
    | true =>
      have f1 : w9.cell? ⟨F, 1, none⟩ = some (.slice pp m m) := cell_of (HS3.out.on HR5b.out.bel).fld 1
      obtain ⟨pre, hpre⟩ : ∃ pre, pre = [opW k] ++ [hText hnd set rt ri] := ⟨_, rfl⟩
      have HR5 : Hid (StR w3 pre (v2) w9) := keepH (by rw [hpre]; exact HR5b.out)
      have hpl : pre.length ≤ 2 := by rw [hpre]; simp
      have HPRE := keepH hpre
      clear hpre
      go_wp2_with fail
      clear f1
      go_loopw [7, 31] (fun v s wr => ∃ i : Nat, i ≤ m ∧ s = .int .i64 (i : Int) ∧ Hid (StR w3 (pre ++ ((numK k).take i).map (fun o => Lib.decDigits (numAt key val old lo hi o))) v wr)) (fun _ s _ => m - (intOf s).toNat)
      case atStart => exact ⟨0, by omega, rfl, keepH (by simpa using HR5.out)⟩
      case round =>
        obtain ⟨i, him, rfl, HR⟩ := hrel
        have HSR := keepH (HS3.out.on HR.out.bel)
        by_cases hlt : i < m
        · have t1 : (i : Int) < (m : Int) := by omega
          have t0 : (0 : Int) ≤ (i : Int) := by omega
          obtain ⟨o, ho⟩ : ∃ o, (numK k)[i]? = some o := ⟨(numK k)[i]'(by have := HM.out; omega), List.getElem?_eq_getElem _⟩
          obtain ⟨g, rfl, p0⟩ := HSR.out.ptr ho
          have p1 : wr.cell? ⟨P, o, none⟩ = _ := HSR.out.cells (HNC.out o (List.mem_of_getElem? ho))
          have hde := HDE.out o wr HSR.out.bel
          obtain ⟨nu, hnu⟩ : ∃ x, x = numAt key val old lo hi o := ⟨_, rfl⟩
          obtain ⟨ls, hls⟩ : ∃ ls, ls = pre ++ ((numK k).take i).map (fun o => Lib.decDigits (numAt key val old lo hi o)) := ⟨_, rfl⟩
          have HLN : Hid (pre ++ ((numK k).take (i + 1)).map (fun o => Lib.decDigits (numAt key val old lo hi o)) = ls ++ [Lib.decDigits nu]) := keepH (by rw [hls, hnu, List.take_add_one, ho]; simp)
          have hll : ls.length ≤ 6 := by rw [hls]; simp; omega
          have HR6 := keepH HR.out
          rw [← hls] at HR6
          rw [← hnu] at p1 hde
          obtain ⟨fl, hfl⟩ : ∃ fl, fl = ls.length := ⟨_, rfl⟩
          have hfl2 : fl ≤ 6 := by omega
          have HFL := keepH hfl
          have HDE2 := keepH hde
          clear hls hnu ho hll hfl hde
          go_wp2_with fail
          refine HDE2.out.mono ?_
          rintro e w6 ⟨rfl, D6⟩
          obtain ⟨sd, hsd⟩ : ∃ s, s = mkS (Lib.decDigits nu) := ⟨_, rfl⟩
          rw [← hsd]
          have HSD := keepH hsd
          have HR7 := keepH (HR6.out.on D6)
          have HRW : Hid (w6.ownsRow 0 9 1 u7 fl (strsRow ls)) := keepH (by rw [HFL.out]; exact HR7.out.row)
          have hi0 := HI.out
          clear D6 hsd p0 p1
          go_wp2_with (first | (at_builtin; refine wpList_append_own_at _ rfl (.tmp 35) (.tmp 40) 67 rfl 0 9 i0 (.string ⟨#[]⟩) 1 16 Tryz.underlying67 hi0 hz0 hz1 hz2 rfl (by decide) u7 fl (strsRow ls) rfl (HRW.out.alloc _) ⟨w6.heap.size, 0, none⟩ 1 1 [.string sd] rfl rfl (cells_newR _ _ rfl _ _) (by intro u hu; simp at hu; rcases hu with rfl; rfl) (by unfold maxLen; omega) (by omega) (Nat.zero_le _) ?_; intro v2 w9 r1 r2 r3 r4; have R1 := keepH r1; have R2 := keepH r2; have R4 := keepH r4; clear r1 r2 r3 r4) | go_in)
          have HNX := keepH (HR7.out.more (r := Lib.decDigits nu) (by rw [← HSD.out, ← HFL.out]; exact R1.out) R2.out R4.out)
          rw [← HLN.out] at HNX
          go_roundw
          case rel => exact ⟨i + 1, by omega, by first | rfl | go_num, HNX⟩
          case measure => simp [intOf]; omega
        · obtain rfl : i = m := by omega
          have t1 : ¬ (i : Int) < (i : Int) := by omega
          have hf := HR.out
          rw [HM.out, List.take_length] at hf
          obtain ⟨ls, hls⟩ : ∃ ls, ls = pre ++ (numK k).map (fun o => Lib.decDigits (numAt key val old lo hi o)) := ⟨_, rfl⟩
          rw [← hls] at hf
          have HF2 := keepH hf
          have hll : ls.length ≤ 6 := by rw [hls]; have := HLE.out; simp; omega
          have HLS : Hid (ls = ([opW k] ++ [hText hnd set rt ri]) ++ (numK k).map (fun o => Lib.decDigits (numAt key val old lo hi o))) := keepH (by rw [hls, HPRE.out])
          have f2 : wr.cell? ⟨F, 2, none⟩ = some (.bool true) := cell_of HSR.out.fld 2
          clear hf hls
          have p8 : wr.cell? ⟨P, 8, none⟩ = some (.slice kp n kc) := HSR.out.cells rfl
          go_wp2_with fail
          clear f2 p8
          go_loopw [7, 48] (fun v s wq => ∃ j : Nat, j ≤ n ∧ s = .int .i64 (j : Int) ∧ Hid (StR w3 (ls ++ (keys.take j).map Lib.decDigits) v wq)) (fun _ s _ => n - (intOf s).toNat)
          case atStart => exact ⟨0, by omega, rfl, keepH (by simpa using HF2.out)⟩
          case round =>
            obtain ⟨j, hjm, rfl, HQ⟩ := hrel
            by_cases hlt : j < n
            · have t2 : (j : Int) < (n : Int) := by omega
              have t0 : (0 : Int) ≤ (j : Int) := by omega
              obtain ⟨x, hx⟩ : ∃ x, keys[j]? = some x := ⟨keys[j]'(by have := HN.out; omega), List.getElem?_eq_getElem _⟩
              obtain ⟨bk, off, rfl, hbk, p0⟩ := (HKR.out.on (below_chain HS3.out.bel HQ.out.bel)).get j x hx
              have hde := HDK.out x (List.mem_of_getElem? hx) wr (below_chain HS3.out.bel HQ.out.bel)
              obtain ⟨lq, hlq⟩ : ∃ lq, lq = ls ++ (keys.take j).map Lib.decDigits := ⟨_, rfl⟩
              have HLN : Hid (ls ++ (keys.take (j + 1)).map Lib.decDigits = lq ++ [Lib.decDigits x]) := keepH (by rw [hlq, List.take_add_one, hx]; simp)
              have hll2 : lq.length ≤ 10000006 := by rw [hlq]; simp; omega
              have HR6 := keepH HQ.out
              rw [← hlq] at HR6
              obtain ⟨fl, hfl⟩ : ∃ fl, fl = lq.length := ⟨_, rfl⟩
              have hfl2 : fl ≤ 10000006 := by omega
              have HFL := keepH hfl
              have HDE2 := keepH hde
              clear hlq hx hll2 hfl hde
              go_wp2_with fail
              refine HDE2.out.mono ?_
              rintro e w6 ⟨rfl, D6⟩
              obtain ⟨sd, hsd⟩ : ∃ s, s = mkS (Lib.decDigits x) := ⟨_, rfl⟩
              rw [← hsd]
              have HSD := keepH hsd
              have HR7 := keepH (HR6.out.on D6)
              have HRW : Hid (w6.ownsRow 0 9 1 u7 fl (strsRow lq)) := keepH (by rw [HFL.out]; exact HR7.out.row)
              have hi0 := HI.out
              clear D6 hsd p0
              go_wp2_with (first | (at_builtin; refine wpList_append_own_at _ rfl (.tmp 52) (.tmp 55) 67 rfl 0 9 i0 (.string ⟨#[]⟩) 1 16 Tryz.underlying67 hi0 hz0 hz1 hz2 rfl (by decide) u7 fl (strsRow lq) rfl (HRW.out.alloc _) ⟨w6.heap.size, 0, none⟩ 1 1 [.string sd] rfl rfl (cells_newR _ _ rfl _ _) (by intro u hu; simp at hu; rcases hu with rfl; rfl) (by unfold maxLen; omega) (by omega) (Nat.zero_le _) ?_; intro v2 w9 r1 r2 r3 r4; have R1 := keepH r1; have R2 := keepH r2; have R4 := keepH r4; clear r1 r2 r3 r4) | go_in)
              have HNX := keepH (HR7.out.more (r := Lib.decDigits x) (by rw [← HSD.out, ← HFL.out]; exact R1.out) R2.out R4.out)
              rw [← HLN.out] at HNX
              go_roundw
              case rel => exact ⟨j + 1, by omega, by first | rfl | go_num, HNX⟩
              case measure => simp [intOf]; omega
            · obtain rfl : j = n := by omega
              have t2 : ¬ (j : Int) < (j : Int) := by omega
              have hg := HQ.out
              rw [HN.out, List.take_length] at hg
              have HG := keepH hg
              clear hg
              have hLS : ls ++ keys.map Lib.decDigits = partsO k key val old hnd set rt ri keys lo hi := by rw [HLS.out]; unfold partsO; rw [← HHD.out, ← HKB.out]; simp
              have HLS2 := keepH hLS
              clear hLS
              go_upto_region 16 with fail
              obtain ⟨g9, c9, hv9, hg9, hc9, hcl9⟩ := HG.out.slice (by rw [HLS2.out]; unfold partsO; simp)
              have hjn := HJN.out g9 c9 _ wr hcl9 hg9 (by have := HTL.out; have := HN.out; rw [HLS2.out]; omega) hc9 (by rw [HLS2.out]; have := join_len _ HTE.out; have := HTL.out; have := HN.out; omega)
              rw [HLS2.out] at hjn hv9
              rw [show Lib.join (partsO k key val old hnd set rt ri keys lo hi) [32] = TT from HTT.out.symm] at hjn
              subst hv9
              have HJ2 := keepH hjn
              have HBZ := keepH (below_chain HS3.out.bel HG.out.bel)
              obtain ⟨np, hnp⟩ : ∃ np, np = (partsO k key val old hnd set rt ri keys lo hi).length := ⟨_, rfl⟩
              rw [← hnp] at HJ2 ⊢
              clear hjn hcl9 hc9 hg9 hnp
              go_wp2_with fail
              refine HJ2.out.mono ?_
              rintro e wz ⟨rfl, Dz⟩
              have HDZ := keepH (below_chain HBZ.out Dz)
              clear Dz
              go_wp2_with fail
              go_ret
              exact ⟨by simp, HDZ.out⟩
end Go.Proofs.YtmmaniolaljjlaaGreatDoor
/- PrintOp, by the program. (mkSci.py) -/
namespace Go.Proofs.YtmmaniolaljjlaaGreatDoor
open Go.RowKit Go.Shelf
set_option linter.unusedVariables false

theorem fault_has {k key val old hnd : Nat} {set : Bool} {rt ri : Int} {kp : Option Addr} {n kc lo hi : Nat} (h : faultN k key val old hnd set rt ri kp n kc lo hi = 0) : hasK k = true := by
  unfold faultN at h
  cases e : hasK k with
  | true => rfl
  | false => rw [if_pos e] at h; simp at h
set_option maxRecDepth 100000 in
set_option maxHeartbeats 4000000 in
theorem printOp_any (k key val old hnd : Nat) (set : Bool) (rt ri : Int) (kp : Option Addr) (kc lo hi : Nat) (keys : List Nat) (hk : k < 256) (h1 : isU key) (h2 : isU val) (h3 : isU old) (h4 : isU hnd) (h5 : isU lo) (h6 : isU hi) (ha : isI rt) (hb : isI ri) (hks : ∀ u ∈ keys, isU u) (hkl : keys.length ≤ 10000000) (W : World) (hW : Wd W) (T : Tb W) (hK : KRd W kp keys) :
    Calls Tryz.prog 7 #[.agg (opR k key val old hnd set rt ri (.slice kp keys.length kc) lo hi)] W fun e W' => ∃ E : Nat, E = faultN k key val old hnd set rt ri kp keys.length kc lo hi ∧ e = .returned (.tuple #[.string (mkS (if E = 0 then opT k key val old hnd set rt ri keys lo hi else [])), .int .i64 (E : Int)]) ∧ Below W.heap.size W W' := by
  have HFA := keepH (fun b w (hV : IsVoc w b) (hbe : Below W.heap.size W w) => fault_any b k key val old hnd set rt ri kp keys.length kc lo hi hk h1 h2 h3 h4 h5 h6 ha hb w hV (hW.on hbe))
  have HPR := keepH (fun b w (hh : hasK k = true) (hV : IsVoc w b) (hbe : Below W.heap.size W w) => print_any b k key val old hnd set rt ri kp kc lo hi keys hk hh h1 h2 h3 h4 h5 h6 ha hb hks hkl w hV (hW.on hbe) (T.on hbe) (hK.on hbe))
  obtain ⟨n, hn⟩ : ∃ n, n = keys.length := ⟨_, rfl⟩
  rw [← hn] at HFA HPR ⊢
  obtain ⟨w1, hw1⟩ : ∃ w1, w1 = W.alloc (.cells (opR k key val old hnd set rt ri (.slice kp n kc) lo hi) 28) := ⟨_, rfl⟩
  obtain ⟨P, hP⟩ : ∃ P, P = W.heap.size := ⟨_, rfl⟩
  have B1 : Below W.heap.size W w1 := by rw [hw1]; exact below_alloc _ _
  have X1 : w1.heap[P]? = some (.cells (opR k key val old hnd set rt ri (.slice kp n kc) lo hi) 28 (0, 0)) := by rw [hw1, hP]; exact heap_alloc_new _ _
  have HW1 := keepH hw1
  have HP := keepH hP
  have HB1 := keepH B1
  have HX1 := keepH X1
  obtain ⟨E, hE⟩ : ∃ E, E = faultN k key val old hnd set rt ri kp n kc lo hi := ⟨_, rfl⟩
  have HE := keepH hE
  rw [← hE] at HFA
  clear hw1 hP B1 X1 hW T hK h1 h2 h3 h4 h5 h6 ha hb hk hks hkl hn hE
  go_enter Tryz.func7, Tryz.ntmps7
  go_upto_region 1 with fail
  rw [← HW1.out, ← HP.out]
  go_wp2_with fail
  refine (voc_new w1).mono ?_
  rintro e w2 ⟨rfl, hV, B2⟩
  have HX2 := keepH (heap_below HX1.out B2)
  have HB2 := keepH (below_chain HB1.out B2)
  have HV := keepH hV
  obtain ⟨b, hbb⟩ : ∃ b, b = w1.heap.size := ⟨_, rfl⟩
  rw [← hbb] at HV ⊢
  clear hV B2 hbb
  have c0 : w2.cell? ⟨P, 0, none⟩ = _ := cell_of HX2.out 0
  have c1 : w2.cell? ⟨P, 1, none⟩ = _ := cell_of HX2.out 1
  have c2 : w2.cell? ⟨P, 2, none⟩ = _ := cell_of HX2.out 2
  have c3 : w2.cell? ⟨P, 3, none⟩ = _ := cell_of HX2.out 3
  have c4 : w2.cell? ⟨P, 4, none⟩ = _ := cell_of HX2.out 4
  have c5 : w2.cell? ⟨P, 5, none⟩ = _ := cell_of HX2.out 5
  have c6 : w2.cell? ⟨P, 6, none⟩ = _ := cell_of HX2.out 6
  have c7 : w2.cell? ⟨P, 7, none⟩ = _ := cell_of HX2.out 7
  have c8 : w2.cell? ⟨P, 8, none⟩ = _ := cell_of HX2.out 8
  have c9 : w2.cell? ⟨P, 9, none⟩ = _ := cell_of HX2.out 9
  have c10 : w2.cell? ⟨P, 10, none⟩ = _ := cell_of HX2.out 10
  go_wp2_with fail
  refine (HFA.out b w2 HV.out HB2.out).mono ?_
  rintro e w3 ⟨rfl, B3⟩
  have X3 := heap_below HX2.out B3
  have HB3 := keepH (below_chain HB2.out B3)
  have HV3 := keepH (HV.out.on B3)
  clear B3 c0 c1 c2 c3 c4 c5 c6 c7 c8 c9 c10
  by_cases h0 : E = 0
  · have hh := fault_has (HE.out.symm.trans h0)
    have HQ := keepH (HPR.out b w3 hh HV3.out HB3.out)
    subst h0
    have c0 : w3.cell? ⟨P, 0, none⟩ = _ := cell_of X3 0
    have c1 : w3.cell? ⟨P, 1, none⟩ = _ := cell_of X3 1
    have c2 : w3.cell? ⟨P, 2, none⟩ = _ := cell_of X3 2
    have c3 : w3.cell? ⟨P, 3, none⟩ = _ := cell_of X3 3
    have c4 : w3.cell? ⟨P, 4, none⟩ = _ := cell_of X3 4
    have c5 : w3.cell? ⟨P, 5, none⟩ = _ := cell_of X3 5
    have c6 : w3.cell? ⟨P, 6, none⟩ = _ := cell_of X3 6
    have c7 : w3.cell? ⟨P, 7, none⟩ = _ := cell_of X3 7
    have c8 : w3.cell? ⟨P, 8, none⟩ = _ := cell_of X3 8
    have c9 : w3.cell? ⟨P, 9, none⟩ = _ := cell_of X3 9
    have c10 : w3.cell? ⟨P, 10, none⟩ = _ := cell_of X3 10
    obtain ⟨TT, hTT⟩ : ∃ TT, TT = mkS (opT k key val old hnd set rt ri keys lo hi) := ⟨_, rfl⟩
    rw [← hTT] at HQ
    have HTT := keepH hTT
    clear X3 hh hTT
    go_wp2_with fail
    refine HQ.out.mono ?_
    rintro e w4 ⟨rfl, B4⟩
    have HB4 := keepH (below_chain HB3.out B4)
    clear B4
    go_wp2_with fail
    go_ret2
    exact ⟨0, HE.out, by rw [HTT.out]; simp, HB4.out⟩
  · have t0 : ¬ ((E : Int) = 0) := by omega
    have u0 : ((E : Int) != 0) = true := by simpa using t0
    clear X3
    go_wp2_with fail
    go_ret2
    exact ⟨E, HE.out, by rw [if_neg h0]; simp, HB3.out⟩
end Go.Proofs.YtmmaniolaljjlaaGreatDoor
