/- ArenaLive, walked. -/
import Derived.Test.YtdhlgmbmpipppaaLd
import Derived.Test.YtdhlgmbmpipppaaALive
import Derived.Test.YtdhlgmbmpipppaaScript
import Derived.Deep.RegionHeld3
namespace Go.Proofs.Ytdhlgmbmpipppaa
open Go.RowKit Go.Shelf
set_option linter.unusedVariables false

set_option maxRecDepth 100000 in
theorem s_which5 (n : Int) (W : World) : Calls Try.prog 6 #[.int .i64 n, .int .i64 5] W fun e W' => ∃ k : Nat, k < 5 ∧ e = .returned (.int .i64 (k : Int)) ∧ W' = W := by
  have hzl : -5 < Int.tmod n 5 ∧ Int.tmod n 5 < 5 := ⟨Int.lt_tmod_of_pos n (by decide), Int.tmod_lt_of_pos n (by decide)⟩
  by_cases h0 : Int.tmod n 5 < 0
  · obtain ⟨k, hk⟩ : ∃ k : Nat, (k : Int) = Int.tmod n 5 + 5 := ⟨(Int.tmod n 5 + 5).toNat, by omega⟩
    have wz2 : IntKind.i64.wrap (Int.tmod n 5 + 5) = (k : Int) := by rw [IntKind.wrap_i64]; omega
    go_enter Try.func6, Try.ntmps6
    go_wp2_with fail
    go_ret
    exact ⟨k, by omega, by simp; omega, rfl⟩
  · obtain ⟨k, hk⟩ : ∃ k : Nat, (k : Int) = Int.tmod n 5 := ⟨(Int.tmod n 5).toNat, by omega⟩
    go_enter Try.func6, Try.ntmps6
    go_wp2_with fail
    go_ret
    exact ⟨k, by omega, by simp [hk], rfl⟩

theorem bank_lt {W : World} {F : Nat → Prop} {b most next : Nat} {cs : List Nat} {l : List Acc} (h : Bank W F b most next cs l) (k : Nat) (hk : F k) : k < W.heap.size := by
  obtain ⟨cv, av, h⟩ := h
  exact h.lt k hk
/-- A plain memory and a live one beside each other. -/
structure AL (W X : World) (m b : Nat) (F : Nat → Prop) (m2 lb gc gf next : Nat) (cs : List Nat) (n : Nat) : Prop where
  pm : IsMem X m b
  pb : ∃ l, Bank X F b 256 next cs l ∧ l.length ≤ n
  lm : IsLMem X m2 lb
  L : LB X lb gc gf next cs
  nF : ¬ F m ∧ ¬ F m2 ∧ ¬ F lb ∧ ¬ F gc ∧ ¬ F gf
  inF : ∀ k, F k → W.heap.size ≤ k
  ge : W.heap.size ≤ lb ∧ W.heap.size ≤ gc ∧ W.heap.size ≤ gf
  chg : Chg (fun _ => False) W X
section
variable {W X Y Z : World} {m b : Nat} {F F' : Nat → Prop} {m2 lb gc gf next next' : Nat} {cs cs' : List Nat} {n v v2 bx : Nat} {o : OpR}
theorem AL.quiet (h : AL W X m b F m2 lb gc gf next cs n) (c : Chg (fun _ => False) X Y) : AL W Y m b F m2 lb gc gf next cs n := by
  obtain ⟨l, B, hl⟩ := h.pb
  exact ⟨h.pm.chg c (fun x => x), ⟨l, B.chg c (fun _ _ x => x), hl⟩, (c.block m2 (lt_of h.lm) (fun x => x)).trans h.lm, h.L.chg c (fun x => x) (fun x => x) (fun x => x), h.nF, h.inF, h.ge, h.chg.falls c⟩
theorem AL.ne (h : AL W X m b F m2 lb gc gf next cs n) : (m ≠ lb ∧ m ≠ gc ∧ m ≠ gf) ∧ (m2 ≠ lb ∧ m2 ≠ gc ∧ m2 ≠ gf) := by
  have p := h.pm
  have q := h.lm
  unfold IsMem at p
  unfold IsLMem at q
  refine ⟨⟨fun e => ?_, fun e => ?_, fun e => ?_⟩, fun e => ?_, fun e => ?_, fun e => ?_⟩
  · have a := h.L.blk; rw [← e, p] at a; simp at a
  · have a := h.L.row; unfold IsR at a; rw [← e, p] at a; simp at a
  · have a := h.L.fil; unfold IsR at a; rw [← e, p] at a; simp at a
  · have a := h.L.blk; rw [← e, q] at a; simp at a
  · have a := h.L.row; unfold IsR at a; rw [← e, q] at a; simp at a
  · have a := h.L.fil; unfold IsR at a; rw [← e, q] at a; simp at a
/-- Both with a new view each, and the operation that is to be done. -/
structure AV (W X : World) (m b : Nat) (F : Nat → Prop) (m2 lb gc gf next : Nat) (cs : List Nat) (n v v2 bx : Nat) (o : OpR) : Prop where
  al : AL W X m b F m2 lb gc gf next cs n
  pv : IsView X v b o.th 0
  lv : IsLView X v2 lb o.th 0
  nv : ¬ F v
  nv2 : ¬ F v2
  bxh : X.heap[bx]? = some (.cells #[.int .i64 o.k, .int .i64 o.wh, .int .i64 o.th, .int .u64 (o.ad : Int), .int .u64 (o.a : Int), .int .u64 (o.b : Int), .slice o.p o.vals.length o.c] 30 (0, 0))
  nb : ¬ F bx
  vW : W.heap.size ≤ v ∧ W.heap.size ≤ v2
theorem AV.quiet (h : AV W X m b F m2 lb gc gf next cs n v v2 bx o) (c : Chg (fun _ => False) X Y) : AV W Y m b F m2 lb gc gf next cs n v v2 bx o :=
  ⟨h.al.quiet c, h.pv.chg c (fun x => x), (c.block v2 (lt_of h.lv) (fun x => x)).trans h.lv, h.nv, h.nv2, (c.block bx (lt_of h.bxh) (fun x => x)).trans h.bxh, h.nb, h.vW⟩
theorem AV.ne (h : AV W X m b F m2 lb gc gf next cs n v v2 bx o) : v ≠ v2 ∧ (v ≠ m ∧ v ≠ m2 ∧ v ≠ lb ∧ v ≠ gc ∧ v ≠ gf ∧ v ≠ bx) ∧ (v2 ≠ m ∧ v2 ≠ m2 ∧ v2 ≠ bx) ∧ (bx ≠ lb ∧ bx ≠ gc ∧ bx ≠ gf) := by
  have p := h.pv
  have q := h.lv
  have r := h.bxh
  have pm := h.al.pm
  have lm := h.al.lm
  have kb := h.al.L.blk
  have kr := h.al.L.row
  have kf := h.al.L.fil
  unfold IsView at p
  unfold IsLView at q
  unfold IsMem at pm
  unfold IsLMem at lm
  unfold IsR at kr kf
  refine ⟨fun e => ?_, ⟨fun e => ?_, fun e => ?_, fun e => ?_, fun e => ?_, fun e => ?_, fun e => ?_⟩, ⟨fun e => ?_, fun e => ?_, fun e => ?_⟩, fun e => ?_, fun e => ?_, fun e => ?_⟩
  · rw [← e, p] at q; simp at q
  · rw [← e, p] at pm; simp at pm
  · rw [← e, p] at lm; simp at lm
  · rw [← e, p] at kb; simp at kb
  · rw [← e, p] at kr; simp at kr
  · rw [← e, p] at kf; simp at kf
  · rw [← e, p] at r; simp at r
  · rw [← e, q] at pm; simp at pm
  · rw [← e, q] at lm; simp at lm
  · rw [← e, q] at r; simp at r
  · rw [← e, r] at kb; simp at kb
  · rw [← e, r] at kr; simp at kr
  · rw [← e, r] at kf; simp at kf
/-- Behind the plain one's access. -/
theorem AV.plain (h : AV W X m b F m2 lb gc gf next cs n v v2 bx o) (G : GoesV X Y F F' v) : LB Y lb gc gf next cs ∧ IsLView Y v2 lb o.th 0 ∧ Y.heap[bx]? = some (.cells #[.int .i64 o.k, .int .i64 o.wh, .int .i64 o.th, .int .u64 (o.ad : Int), .int .u64 (o.a : Int), .int .u64 (o.b : Int), .slice o.p o.vals.length o.c] 30 (0, 0)) := by
  obtain ⟨n1, ⟨n2, n3, n4, n5, n6, n7⟩, ⟨n8, n9, n10⟩, _⟩ := h.ne
  exact ⟨h.al.L.chg G.chg (fun e => e.elim h.al.nF.2.2.1 (fun e => n4 e.symm)) (fun e => e.elim h.al.nF.2.2.2.1 (fun e => n5 e.symm)) (fun e => e.elim h.al.nF.2.2.2.2 (fun e => n6 e.symm)), (G.chg.block v2 (lt_of h.lv) (fun e => e.elim h.nv2 (fun e => n1 e.symm))).trans h.lv, (G.chg.block bx (lt_of h.bxh) (fun e => e.elim h.nb (fun e => n7 e.symm))).trans h.bxh⟩
/-- Behind both. -/
theorem AV.both (h : AV W X m b F m2 lb gc gf next cs n v v2 bx o) (G : GoesV X Y F F' v) {l' : List Acc} (B : Bank Y F' b 256 next' cs' l') (hl : l'.length ≤ n + 1) (L : LB Z lb gc gf next' cs') (C : Chg (fun k => k = v2 ∨ k = lb ∨ k = gc ∨ k = gf) Y Z) : AL W Z m b F' m2 lb gc gf next' cs' (n + 1) ∧ Z.heap[bx]? = some (.cells #[.int .i64 o.k, .int .i64 o.wh, .int .i64 o.th, .int .u64 (o.ad : Int), .int .u64 (o.a : Int), .int .u64 (o.b : Int), .slice o.p o.vals.length o.c] 30 (0, 0)) := by
  obtain ⟨n1, ⟨n2, n3, n4, n5, n6, n7⟩, ⟨n8, n9, n10⟩, b1, b2, b3⟩ := h.ne
  obtain ⟨⟨m3, m4, m5⟩, m6, m7, m8⟩ := h.al.ne
  have out : ∀ k, k < X.heap.size → ¬ F k → ¬ F' k := fun k hk hn e => (G.new k e).elim hn (fun y => by omega)
  obtain ⟨f1, f2, f3, f4, f5⟩ := h.al.nF
  have lv2 := lt_of h.lv
  have l1 := lt_of h.al.L.blk
  have l2 := lt_of h.al.L.row
  have l3 := lt_of h.al.L.fil
  have sY := G.chg.size
  have sX := h.al.chg.size
  have pmY : IsMem Y m b := h.al.pm.chg G.chg (fun e => e.elim f1 (fun e => n2 e.symm))
  have lmY : IsLMem Y m2 lb := (G.chg.block m2 (lt_of h.al.lm) (fun e => e.elim f2 (fun e => n3 e.symm))).trans h.al.lm
  have bxY := (h.plain G).2.2
  refine ⟨⟨pmY.chg C (fun e => ?_), ⟨l', B.chg C (fun k hk e => ?_), hl⟩, (C.block m2 (lt_of lmY) (fun e => ?_)).trans lmY, L, ⟨out m (lt_of h.al.pm) f1, out m2 (lt_of h.al.lm) f2, out lb l1 f3, out gc l2 f4, out gf l3 f5⟩, fun k e => (G.new k e).elim (h.al.inF k) (fun y => by omega), h.al.ge, ?_⟩, (C.block bx (lt_of bxY) (fun e => ?_)).trans bxY⟩
  · rcases e with e | e | e | e
    · exact n8 e.symm
    · exact m3 e
    · exact m4 e
    · exact m5 e
  · rcases e with e | e | e | e
    · subst e; exact out k lv2 h.nv2 hk
    · subst e; exact out k l1 f3 hk
    · subst e; exact out k l2 f4 hk
    · subst e; exact out k l3 f5 hk
  · rcases e with e | e | e | e
    · exact n9 e.symm
    · exact m6 e
    · exact m7 e
    · exact m8 e
  · have c1 : Chg (fun _ => False) W Y := h.al.chg.trans G.chg (fun _ _ x => x) (fun i hi e => e.elim (fun y => by have := h.al.inF i y; omega) (fun y => by have := h.vW.1; omega))
    exact c1.trans C (fun _ _ x => x) (fun i hi e => by
      have g := h.al.ge
      have g2 := h.vW.2
      rcases e with e | e | e | e <;> omega)
  · rcases e with e | e | e | e
    · exact n10 e.symm
    · exact b1 e
    · exact b2 e
    · exact b3 e
end
set_option maxRecDepth 100000 in
set_option maxHeartbeats 8000000 in
theorem live_walk (p : Option Addr) (c : Nat) (ops : List OpR) (w : World) (hS : Script w p ops) (hn : ops.length ≤ 1048576) (hv : ∀ o ∈ ops, o.vals.length ≤ 1048576) : Calls Try.prog 3 #[.slice p ops.length c] w fun e w' => e = .returned (.bool true) ∧ Chg (fun _ => False) w w' := by
  have HS := keepH hS
  have HVL := keepH hv
  clear hS hv
  go_enter Try.func3, Try.ntmps3
  go_wp2_with fail
  refine (m_new 256 w (by omega)).mono ?_
  rintro e W1 ⟨rfl, M1, B1, C1, S1⟩
  have HM1 := keepH M1
  have HB1 := keepH B1
  have HC1 := keepH C1
  have HS1 := keepH S1
  clear M1 B1 C1 S1
  go_wp2_with fail
  refine (m_newL W1).mono ?_
  rintro e W2 ⟨m2, lb, gc, gf, rfl, LM, L2, C2, g0, g1, g2, g3⟩
  obtain ⟨m, hm⟩ : ∃ m, m = w.heap.size + 1 := ⟨_, rfl⟩
  obtain ⟨b, hb⟩ : ∃ b, b = w.heap.size := ⟨_, rfl⟩
  have HA0 : Hid (AL w W2 m b (fun k => k = b) m2 lb gc gf 1 [] 0) := by
    have s1 := HS1.out
    have s2 := C2.size
    rw [hm, hb]
    exact ⟨HM1.out.chg C2 (fun x => x), ⟨[], HB1.out.chg C2 (fun _ _ x => x), Nat.le_refl _⟩, LM, L2, ⟨by omega, by omega, by omega, by omega, by omega⟩, fun k e => by omega, ⟨by omega, by omega, by omega⟩, HC1.out.falls C2⟩
  rw [← hm]
  clear LM L2 C2 g0 g1 g2 g3 hm hb HM1 HB1 HC1 HS1
  go_wp2_with fail
  go_loopw [29] (fun s29 wr => ∃ (k : Nat) (F : Nat → Prop) (next : Nat) (cs : List Nat), k ≤ ops.length ∧ s29 = .int .i64 (k : Int) ∧ Hid (AL w wr m b F m2 lb gc gf next cs k)) (fun s29 _ => ops.length - (intOf s29).toNat)
  case atStart => exact ⟨0, _, _, _, by omega, rfl, HA0⟩
  case round =>
    clear HA0
    obtain ⟨k, F, next, cs, hk, rfl, HA⟩ := hrel
    by_cases hlt : k < ops.length
    · have t1 : (k : Int) < (ops.length : Int) := by omega
      obtain ⟨o, ho⟩ : ∃ o, ops[k]? = some o := ⟨ops[k], List.getElem?_eq_getElem hlt⟩
      have hov := HVL.out o (List.mem_of_getElem? ho)
      obtain ⟨bk, off, rfl, hbk, hcell, hok⟩ := HS.out.get k o ho
      have hc : ∀ j u, o.cells[j]? = some u → wr.cell? ⟨bk, off + k * 7 + j, none⟩ = some u := fun j u hj => cell_chg HA.out.chg (hcell j u hj) (fun h => h)
      have c0 : wr.cell? ⟨bk, off + k * 7, none⟩ = some (.int .i64 o.k) := hc 0 _ rfl
      have c1 : wr.cell? ⟨bk, off + k * 7 + 1, none⟩ = some (.int .i64 o.wh) := hc 1 _ rfl
      have c2 : wr.cell? ⟨bk, off + k * 7 + 2, none⟩ = some (.int .i64 o.th) := hc 2 _ rfl
      have c3 : wr.cell? ⟨bk, off + k * 7 + 3, none⟩ = some (.int .u64 (o.ad : Int)) := hc 3 _ rfl
      have c4 : wr.cell? ⟨bk, off + k * 7 + 4, none⟩ = some (.int .u64 (o.a : Int)) := hc 4 _ rfl
      have c5 : wr.cell? ⟨bk, off + k * 7 + 5, none⟩ = some (.int .u64 (o.b : Int)) := hc 5 _ rfl
      have c6 : wr.cell? ⟨bk, off + k * 7 + 6, none⟩ = some (.slice o.p o.vals.length o.c) := hc 6 _ rfl
      have HOK := keepH hok
      obtain ⟨X1, hX1⟩ : ∃ X1, X1 = wr.alloc (.cells #[.int .i64 o.k, .int .i64 o.wh, .int .i64 o.th, .int .u64 (o.ad : Int), .int .u64 (o.a : Int), .int .u64 (o.b : Int), .slice o.p o.vals.length o.c] 30) := ⟨_, rfl⟩
      obtain ⟨bx, hbx⟩ : ∃ bx, bx = wr.heap.size := ⟨_, rfl⟩
      have HA1 : Hid (AL w X1 m b F m2 lb gc gf next cs k) := by rw [hX1]; exact HA.out.quiet ((Chg.refl _ _).alloc _)
      have HX1 : Hid (X1.heap[bx]? = some (.cells #[.int .i64 o.k, .int .i64 o.wh, .int .i64 o.th, .int .u64 (o.ad : Int), .int .u64 (o.a : Int), .int .u64 (o.b : Int), .slice o.p o.vals.length o.c] 30 (0, 0))) := by rw [hX1, hbx]; exact heap_alloc_new _ _
      have HnB : Hid (¬ F bx) := fun e => by obtain ⟨lx, Bx, _⟩ := HA.out.pb; have := bank_lt Bx bx e; omega
      clear hc hok hcell ho hbk
      go_upto_region 8 with fail
      rw [← hX1, ← hbx]
      clear hX1 hbx c0 c1 c2 c3 c4 c5 c6
      go_cut [9, 10] from 33 to 40 (fun s9 s10 wz => ∃ v v2 : Nat, s9 = .pointer (some ⟨v, 0, none⟩) ∧ s10 = .pointer (some ⟨v2, 0, none⟩) ∧ Hid (AV w wz m b F m2 lb gc gf next cs k v v2 bx o))
      case first =>
        have hS0 : ∀ i u, (#[.int .i64 o.k, .int .i64 o.wh, .int .i64 o.th, .int .u64 (o.ad : Int), .int .u64 (o.a : Int), .int .u64 (o.b : Int), .slice o.p o.vals.length o.c] : Array Value)[i]? = some u → X1.drew.cell? ⟨bx, i, none⟩ = some u := fun i u hu => by rw [show X1.drew.cell? ⟨bx, i, none⟩ = X1.cell? ⟨bx, i, none⟩ from rfl, cell_of HX1.out i]; exact hu
        refine wp_region_held_drew (S := (fun wd => ∀ i u, (#[.int .i64 o.k, .int .i64 o.wh, .int .i64 o.th, .int .u64 (o.ad : Int), .int .u64 (o.a : Int), .int .u64 (o.b : Int), .slice o.p o.vals.length o.c] : Array Value)[i]? = some u → wd.cell? ⟨bx, i, none⟩ = some u)) (by kernel_rfl) (hS0) ?_
        intro hHeld
        refine wpAnyH_take (i := 0) (v := ?_) rfl (by kernel_rfl) (by kernel_rfl) (by kernel_rfl) (fun _ _ _ h => h) (Or.inl ⟨by rfl, ?_⟩) hHeld ?_
        rotate_left
        · intro w hSw
          (try dsimp only at hSw)
          go_simp
          try with_reducible rfl
        (try simp only [Act.put]); (try simp only [List.setIfInBounds_toArray]); (repeat (first | simp only [List.set_cons_succ] | simp only [List.set_cons_zero]))
        refine wpAnyH_take (i := 1) (v := ?_) rfl (by kernel_rfl) (by kernel_rfl) (by kernel_rfl) (fun _ _ _ h => h) (Or.inl ⟨by rfl, ?_⟩) hHeld ?_
        rotate_left
        · intro w hSw
          (try dsimp only at hSw)
          go_simp
          try with_reducible rfl
        (try simp only [Act.put]); (try simp only [List.setIfInBounds_toArray]); (repeat (first | simp only [List.set_cons_succ] | simp only [List.set_cons_zero]))
        refine wpAnyH_take (i := 2) (v := ?_) rfl (by kernel_rfl) (by kernel_rfl) (by kernel_rfl) (fun _ _ _ h => h) (Or.inl ⟨by rfl, ?_⟩) hHeld ?_
        rotate_left
        · intro w hSw
          (try dsimp only at hSw)
          have y := hSw 2 _ rfl
          go_simp
          try with_reducible rfl
        (try simp only [Act.put]); (try simp only [List.setIfInBounds_toArray]); (repeat (first | simp only [List.set_cons_succ] | simp only [List.set_cons_zero]))
        refine wpAnyH_take (i := 4) (v := ?_) rfl (by kernel_rfl) (by kernel_rfl) (by kernel_rfl) (fun _ _ _ h => h) (Or.inl ⟨by rfl, ?_⟩) hHeld ?_
        rotate_left
        · intro w hSw
          (try dsimp only at hSw)
          go_simp
          try with_reducible rfl
        (try simp only [Act.put]); (try simp only [List.setIfInBounds_toArray]); (repeat (first | simp only [List.set_cons_succ] | simp only [List.set_cons_zero]))
        refine wpAnyH_take (i := 5) (v := ?_) rfl (by kernel_rfl) (by kernel_rfl) (by kernel_rfl) (fun _ _ _ h => h) (Or.inl ⟨by rfl, ?_⟩) hHeld ?_
        rotate_left
        · intro w hSw
          (try dsimp only at hSw)
          go_simp
          try with_reducible rfl
        (try simp only [Act.put]); (try simp only [List.setIfInBounds_toArray]); (repeat (first | simp only [List.set_cons_succ] | simp only [List.set_cons_zero]))
        refine wpAnyH_take (i := 6) (v := ?_) rfl (by kernel_rfl) (by kernel_rfl) (by kernel_rfl) (fun _ _ _ h => h) (Or.inl ⟨by rfl, ?_⟩) hHeld ?_
        rotate_left
        · intro w hSw
          (try dsimp only at hSw)
          have y := hSw 2 _ rfl
          go_simp
          try with_reducible rfl
        (try simp only [Act.put]); (try simp only [List.setIfInBounds_toArray]); (repeat (first | simp only [List.set_cons_succ] | simp only [List.set_cons_zero]))
        refine wpAnyH_ready (rs := [3]) (by kernel_rfl) (by simp) ?_
        refine AllReadyH.cons rfl (fun KK hKK => ?_) AllReadyH.nil
        go_simp
        go_at_call 5
        refine (m_view m b o.th _ (HA1.out.pm.chg (by first | exact Chg.refl (fun _ => False) _ | exact (Chg.refl (fun _ => False) _).drew) (fun x => x))).mono ?_
        rintro e Y ⟨rfl, hY⟩
        have cY : Chg (fun _ => False) X1 Y := by rw [hY]; exact ((Chg.refl _ _).drew).alloc _
        have HVv : Hid (IsView Y X1.heap.size b o.th 0) := by rw [hY]; exact heap_alloc_new _ _
        have HAY := keepH (HA1.out.quiet cY)
        have HcY := keepH cY
        have sY : Hid (Y.heap.size = X1.heap.size + 1) := by rw [hY]; simp [Hid]
        clear hY cY
        try go_wp2_with fail
        refine hKK.out _ _ ?_ (fun hHeld => ?_)
        · exact fun i u hu => by rw [cell_of ((HcY.out.block bx (lt_of HX1.out) (fun x => x)).trans HX1.out) i]; exact hu
        clear hKK KK
        (try simp only [Act.put]); (try simp only [List.setIfInBounds_toArray]); (repeat (first | simp only [List.set_cons_succ] | simp only [List.set_cons_zero]))
        refine wpAnyH_ready (rs := [7]) (by kernel_rfl) (by simp) ?_
        refine AllReadyH.cons rfl (fun KK hKK => ?_) AllReadyH.nil
        go_simp
        go_at_call 5
        refine (m_viewL m2 lb o.th _ HAY.out.lm).mono ?_
        rintro e Z ⟨rfl, hZ⟩
        have cZ : Chg (fun _ => False) Y Z := by rw [hZ]; exact (Chg.refl _ _).alloc _
        have HAV : Hid (AV w Z m b F m2 lb gc gf next cs k X1.heap.size Y.heap.size bx o) := by
            obtain ⟨lx, Bx, _⟩ := HA1.out.pb
            have sW := HA1.out.chg.size
            have sy := sY.out
            exact ⟨HAY.out.quiet cZ, (cZ.block _ (lt_of HVv.out) (fun x => x)).trans HVv.out, by rw [hZ]; exact heap_alloc_new _ _, fun e => by have := bank_lt Bx _ e; omega, fun e => by have := bank_lt Bx _ e; omega, (cZ.block _ (Nat.lt_of_lt_of_le (lt_of HX1.out) HcY.out.size) (fun x => x)).trans ((HcY.out.block _ (lt_of HX1.out) (fun x => x)).trans HX1.out), HnB.out, by omega, by omega⟩
        have HcZ := keepH cZ
        clear hZ cZ
        try go_wp2_with fail
        refine hKK.out _ _ ?_ (fun hHeld => ?_)
        · exact fun i u hu => by rw [cell_of HAV.out.bxh i]; exact hu
        clear hKK KK
        (try simp only [Act.put]); (try simp only [List.setIfInBounds_toArray]); (repeat (first | simp only [List.set_cons_succ] | simp only [List.set_cons_zero]))
        refine wpAnyH_take (i := 8) (v := ?_) rfl (by kernel_rfl) (by kernel_rfl) (by kernel_rfl) (fun _ _ _ h => h) (Or.inl ⟨by rfl, ?_⟩) hHeld ?_
        rotate_left
        · intro w hSw
          (try dsimp only at hSw)
          go_simp
          try with_reducible rfl
        (try simp only [Act.put]); (try simp only [List.setIfInBounds_toArray]); (repeat (first | simp only [List.set_cons_succ] | simp only [List.set_cons_zero]))
        refine wpAnyH_take (i := 9) (v := ?_) rfl (by kernel_rfl) (by kernel_rfl) (by kernel_rfl) (fun _ _ _ h => h) (Or.inl ⟨by rfl, ?_⟩) hHeld ?_
        rotate_left
        · intro w hSw
          (try dsimp only at hSw)
          go_simp
          try with_reducible rfl
        (try simp only [Act.put]); (try simp only [List.setIfInBounds_toArray]); (repeat (first | simp only [List.set_cons_succ] | simp only [List.set_cons_zero]))
        refine wpAnyH_done (by kernel_rfl) ?_ _
        go_simp
        try go_wp2_with fail
        go_meet
        exact ⟨_, _, rfl, rfl, HAV⟩
      case rest =>
        obtain ⟨X2, hX2⟩ : ∃ X2, X2 = wc := ⟨_, rfl⟩
        subst hX2
        obtain ⟨v, v2, rfl, rfl, HV8⟩ := hcut
        obtain ⟨l8, B8, hl8⟩ := HV8.out.al.pb
        have HB8 := keepH B8
        have HVd : Hid (AV w X2.drew m b F m2 lb gc gf next cs k v v2 bx o) := HV8.out.quiet (Chg.refl (fun _ => False) _).drew
        have HBd : Hid (Bank X2.drew F b 256 next cs l8) := HB8.out.chg (Chg.refl (fun _ => False) _).drew (fun _ _ x => x)
        have HRd : Hid (Reads X2.drew o.p o.vals) := HOK.out.reads.chg (HV8.out.al.chg.falls (Chg.refl (fun _ => False) _).drew) (fun _ _ _ x => x)
        have HRf : Hid (∀ ad, o.p = some ad → o.vals ≠ [] → ¬ F ad.block) := fun ad e ne z => by have := HOK.out.block ad e ne; have := HV8.out.al.inF _ z; omega
        have HRv : Hid (∀ ad, o.p = some ad → o.vals ≠ [] → ad.block ≠ v) := fun ad e ne z => by have := HOK.out.block ad e ne; have := HV8.out.vW.1; omega
        have HRl : Hid (∀ ad, o.p = some ad → o.vals ≠ [] → ad.block ≠ lb ∧ ad.block ≠ gc) := fun ad e ne => by have := HOK.out.block ad e ne; have := HV8.out.al.ge; exact ⟨by omega, by omega⟩
        have q0 : X2.cell? ⟨bx, 0, none⟩ = some (.int .i64 o.k) := cell_of HV8.out.bxh 0
        have q3 : X2.cell? ⟨bx, 3, none⟩ = some (.int .u64 (o.ad : Int)) := cell_of HV8.out.bxh 3
        have q4 : X2.cell? ⟨bx, 4, none⟩ = some (.int .u64 (o.a : Int)) := cell_of HV8.out.bxh 4
        clear B8 HX1 HA1 HnB HA
        go_wp2_with fail
        refine (s_which5 o.k _).mono ?_
        rintro e w' ⟨r, hr5, rfl, hw'⟩
        have hw2 := hw'.symm
        subst hw2
        obtain hr | hr | hr | hr | hr : r = 0 ∨ r = 1 ∨ r = 2 ∨ r = 3 ∨ r = 4 := by omega
        · subst hr
          have hS0 : ∀ i u, (#[.int .i64 o.k, .int .i64 o.wh, .int .i64 o.th, .int .u64 (o.ad : Int), .int .u64 (o.a : Int), .int .u64 (o.b : Int), .slice o.p o.vals.length o.c] : Array Value)[i]? = some u → X2.drew.cell? ⟨bx, i, none⟩ = some u := fun i u hu => by rw [show X2.drew.cell? ⟨bx, i, none⟩ = X2.cell? ⟨bx, i, none⟩ from rfl, cell_of HV8.out.bxh i]; exact hu
          go_upto_region 13 with fail
          refine wp_region_held_drew (S := (fun wd => ∀ i u, (#[.int .i64 o.k, .int .i64 o.wh, .int .i64 o.th, .int .u64 (o.ad : Int), .int .u64 (o.a : Int), .int .u64 (o.b : Int), .slice o.p o.vals.length o.c] : Array Value)[i]? = some u → wd.cell? ⟨bx, i, none⟩ = some u)) (by kernel_rfl) (hS0) ?_
          intro hHeld
          refine wpAnyH_take (i := 0) (v := ?_) rfl (by kernel_rfl) (by kernel_rfl) (by kernel_rfl) (fun _ _ _ h => h) (Or.inl ⟨by rfl, ?_⟩) hHeld ?_
          rotate_left
          · intro w hSw
            (try dsimp only at hSw)
            go_simp
            try with_reducible rfl
          (try simp only [Act.put]); (try simp only [List.setIfInBounds_toArray]); (repeat (first | simp only [List.set_cons_succ] | simp only [List.set_cons_zero]))
          refine wpAnyH_take (i := 1) (v := ?_) rfl (by kernel_rfl) (by kernel_rfl) (by kernel_rfl) (fun _ _ _ h => h) (Or.inl ⟨by rfl, ?_⟩) hHeld ?_
          rotate_left
          · intro w hSw
            (try dsimp only at hSw)
            go_simp
            try with_reducible rfl
          (try simp only [Act.put]); (try simp only [List.setIfInBounds_toArray]); (repeat (first | simp only [List.set_cons_succ] | simp only [List.set_cons_zero]))
          refine wpAnyH_take (i := 2) (v := ?_) rfl (by kernel_rfl) (by kernel_rfl) (by kernel_rfl) (fun _ _ _ h => h) (Or.inl ⟨by rfl, ?_⟩) hHeld ?_
          rotate_left
          · intro w hSw
            (try dsimp only at hSw)
            have y := hSw 3 _ rfl
            go_simp
            try with_reducible rfl
          (try simp only [Act.put]); (try simp only [List.setIfInBounds_toArray]); (repeat (first | simp only [List.set_cons_succ] | simp only [List.set_cons_zero]))
          refine wpAnyH_take (i := 4) (v := ?_) rfl (by kernel_rfl) (by kernel_rfl) (by kernel_rfl) (fun _ _ _ h => h) (Or.inl ⟨by rfl, ?_⟩) hHeld ?_
          rotate_left
          · intro w hSw
            (try dsimp only at hSw)
            go_simp
            try with_reducible rfl
          (try simp only [Act.put]); (try simp only [List.setIfInBounds_toArray]); (repeat (first | simp only [List.set_cons_succ] | simp only [List.set_cons_zero]))
          refine wpAnyH_take (i := 5) (v := ?_) rfl (by kernel_rfl) (by kernel_rfl) (by kernel_rfl) (fun _ _ _ h => h) (Or.inl ⟨by rfl, ?_⟩) hHeld ?_
          rotate_left
          · intro w hSw
            (try dsimp only at hSw)
            go_simp
            try with_reducible rfl
          (try simp only [Act.put]); (try simp only [List.setIfInBounds_toArray]); (repeat (first | simp only [List.set_cons_succ] | simp only [List.set_cons_zero]))
          refine wpAnyH_take (i := 6) (v := ?_) rfl (by kernel_rfl) (by kernel_rfl) (by kernel_rfl) (fun _ _ _ h => h) (Or.inl ⟨by rfl, ?_⟩) hHeld ?_
          rotate_left
          · intro w hSw
            (try dsimp only at hSw)
            have y := hSw 3 _ rfl
            go_simp
            try with_reducible rfl
          (try simp only [Act.put]); (try simp only [List.setIfInBounds_toArray]); (repeat (first | simp only [List.set_cons_succ] | simp only [List.set_cons_zero]))
          refine wpAnyH_ready (rs := [3]) (by kernel_rfl) (by simp) ?_
          refine AllReadyH.cons rfl (fun KK hKK => ?_) AllReadyH.nil
          go_simp
          go_at_call 7
          refine (v_load v b 256 next 0 o.th o.ad F cs l8 _ (HVd.out.pv) HBd.out HV8.out.nv (by omega) (by omega) HOK.out.ad).mono ?_
          rintro e Y ⟨rfl, F2, vs, B2, V2, G2⟩
          obtain ⟨LY, VY, XY⟩ := HVd.out.plain G2
          have HB2 := keepH B2
          have HG2 := keepH G2
          have HLY := keepH LY
          have HVY := keepH VY
          have HXY := keepH XY
          clear B2 V2 G2 LY VY XY
          try go_wp2_with fail
          refine hKK.out _ _ ?_ (fun hHeld => ?_)
          · exact fun i u hu => by rw [cell_of HXY.out i]; exact hu
          clear hKK KK
          (try simp only [Act.put]); (try simp only [List.setIfInBounds_toArray]); (repeat (first | simp only [List.set_cons_succ] | simp only [List.set_cons_zero]))
          refine wpAnyH_ready (rs := [7]) (by kernel_rfl) (by simp) ?_
          refine AllReadyH.cons rfl (fun KK hKK => ?_) AllReadyH.nil
          go_simp
          go_at_call 7
          refine (vl_load o.ad HOK.out.ad HVY.out HLY.out (by omega)).mono ?_
          rintro e Z ⟨rfl, LZ, VZ, CZ⟩
          obtain ⟨AZ, XZ⟩ := HVd.out.both HG2.out HB2.out (by simp; omega) LZ CZ
          have HAZ := keepH AZ
          have HXZ := keepH XZ
          have HVZ := keepH VZ
          clear LZ VZ CZ AZ XZ
          try go_wp2_with fail
          refine hKK.out _ _ ?_ (fun hHeld => ?_)
          · exact fun i u hu => by rw [cell_of HXZ.out i]; exact hu
          clear hKK KK
          (try simp only [Act.put]); (try simp only [List.setIfInBounds_toArray]); (repeat (first | simp only [List.set_cons_succ] | simp only [List.set_cons_zero]))
          refine wpAnyH_take (i := 8) (v := ?_) rfl (by kernel_rfl) (by kernel_rfl) (by kernel_rfl) (fun _ _ _ h => h) (Or.inl ⟨by rfl, ?_⟩) hHeld ?_
          rotate_left
          · intro w hSw
            (try dsimp only at hSw)
            go_simp
            try with_reducible rfl
          (try simp only [Act.put]); (try simp only [List.setIfInBounds_toArray]); (repeat (first | simp only [List.set_cons_succ] | simp only [List.set_cons_zero]))
          refine wpAnyH_take (i := 9) (v := ?_) rfl (by kernel_rfl) (by kernel_rfl) (by kernel_rfl) (fun _ _ _ h => h) (Or.inl ⟨by rfl, ?_⟩) hHeld ?_
          rotate_left
          · intro w hSw
            (try dsimp only at hSw)
            go_simp
            try with_reducible rfl
          (try simp only [Act.put]); (try simp only [List.setIfInBounds_toArray]); (repeat (first | simp only [List.set_cons_succ] | simp only [List.set_cons_zero]))
          refine wpAnyH_done (by kernel_rfl) ?_ _
          go_simp
          obtain ⟨l9, B9, hl9⟩ := HAZ.out.pb
          have HB9 := keepH B9
          clear B9 hl9
          go_wp2_with fail
          refine (vl_acc HVZ.out).mono ?_
          rintro e w9 ⟨rfl, rfl⟩
          go_wp2_with fail
          refine (m_left m b 256 _ _ _ l9 _ HAZ.out.pm HB9.out).mono ?_
          rintro e wa ⟨rfl, q, rfl⟩
          have HAq := keepH (HAZ.out.quiet (Goes.drewN w9 (fun _ => False) q).chg)
          go_wp2_with fail
          refine (m_leftL HAq.out.lm HAq.out.L).mono ?_
          rintro e wb ⟨rfl, q2, rfl⟩
          go_wp2_with fail
          exact ⟨⟨k + 1, _, _, _, by omega, by simp, HAZ.out.quiet (Goes.drewN w9 (fun _ => False) _).chg⟩, by simp [intOf]; omega⟩
        · subst hr
          go_wp2_with fail
          refine (v_store v b 256 next 0 o.th o.ad o.a F cs l8 _ HV8.out.pv HB8.out HV8.out.nv (by omega) (by omega) HOK.out.ad HOK.out.a).mono ?_
          rintro e Y ⟨rfl, F2, vs, B2, V2, G2⟩
          obtain ⟨LY, VY, XY⟩ := HV8.out.plain G2
          have HB2 := keepH B2
          have HG2 := keepH G2
          have HLY := keepH LY
          have HVY := keepH VY
          have p3 : Y.cell? ⟨bx, 3, none⟩ = some (.int .u64 (o.ad : Int)) := cell_of XY 3
          have p4 : Y.cell? ⟨bx, 4, none⟩ = some (.int .u64 (o.a : Int)) := cell_of XY 4
          clear B2 V2 G2 LY VY XY
          go_wp2_with fail
          refine (vl_store o.ad o.a HOK.out.ad HOK.out.a HVY.out HLY.out (by omega)).mono ?_
          rintro e Z ⟨rfl, LZ, VZ, CZ⟩
          obtain ⟨AZ, XZ⟩ := HV8.out.both HG2.out HB2.out (by simp; omega) LZ CZ
          have HAZ := keepH AZ
          have HVZ := keepH VZ
          clear LZ VZ CZ AZ XZ
          obtain ⟨l9, B9, hl9⟩ := HAZ.out.pb
          have HB9 := keepH B9
          clear B9 hl9
          go_wp2_with fail
          refine (vl_acc HVZ.out).mono ?_
          rintro e w9 ⟨rfl, rfl⟩
          go_wp2_with fail
          refine (m_left m b 256 _ _ _ l9 _ HAZ.out.pm HB9.out).mono ?_
          rintro e wa ⟨rfl, q, rfl⟩
          have HAq := keepH (HAZ.out.quiet (Goes.drewN w9 (fun _ => False) q).chg)
          go_wp2_with fail
          refine (m_leftL HAq.out.lm HAq.out.L).mono ?_
          rintro e wb ⟨rfl, q2, rfl⟩
          go_wp2_with fail
          exact ⟨⟨k + 1, _, _, _, by omega, by simp, HAZ.out.quiet (Goes.drewN w9 (fun _ => False) _).chg⟩, by simp [intOf]; omega⟩
        · subst hr
          have hS0 : ∀ i u, (#[.int .i64 o.k, .int .i64 o.wh, .int .i64 o.th, .int .u64 (o.ad : Int), .int .u64 (o.a : Int), .int .u64 (o.b : Int), .slice o.p o.vals.length o.c] : Array Value)[i]? = some u → X2.drew.cell? ⟨bx, i, none⟩ = some u := fun i u hu => by rw [show X2.drew.cell? ⟨bx, i, none⟩ = X2.cell? ⟨bx, i, none⟩ from rfl, cell_of HV8.out.bxh i]; exact hu
          go_upto_region 18 with fail
          refine wp_region_held_drew (S := (fun wd => ∀ i u, (#[.int .i64 o.k, .int .i64 o.wh, .int .i64 o.th, .int .u64 (o.ad : Int), .int .u64 (o.a : Int), .int .u64 (o.b : Int), .slice o.p o.vals.length o.c] : Array Value)[i]? = some u → wd.cell? ⟨bx, i, none⟩ = some u)) (by kernel_rfl) (hS0) ?_
          intro hHeld
          refine wpAnyH_take (i := 0) (v := ?_) rfl (by kernel_rfl) (by kernel_rfl) (by kernel_rfl) (fun _ _ _ h => h) (Or.inl ⟨by rfl, ?_⟩) hHeld ?_
          rotate_left
          · intro w hSw
            (try dsimp only at hSw)
            go_simp
            try with_reducible rfl
          (try simp only [Act.put]); (try simp only [List.setIfInBounds_toArray]); (repeat (first | simp only [List.set_cons_succ] | simp only [List.set_cons_zero]))
          refine wpAnyH_take (i := 1) (v := ?_) rfl (by kernel_rfl) (by kernel_rfl) (by kernel_rfl) (fun _ _ _ h => h) (Or.inl ⟨by rfl, ?_⟩) hHeld ?_
          rotate_left
          · intro w hSw
            (try dsimp only at hSw)
            go_simp
            try with_reducible rfl
          (try simp only [Act.put]); (try simp only [List.setIfInBounds_toArray]); (repeat (first | simp only [List.set_cons_succ] | simp only [List.set_cons_zero]))
          refine wpAnyH_take (i := 2) (v := ?_) rfl (by kernel_rfl) (by kernel_rfl) (by kernel_rfl) (fun _ _ _ h => h) (Or.inl ⟨by rfl, ?_⟩) hHeld ?_
          rotate_left
          · intro w hSw
            (try dsimp only at hSw)
            have y := hSw 3 _ rfl
            go_simp
            try with_reducible rfl
          (try simp only [Act.put]); (try simp only [List.setIfInBounds_toArray]); (repeat (first | simp only [List.set_cons_succ] | simp only [List.set_cons_zero]))
          refine wpAnyH_take (i := 3) (v := ?_) rfl (by kernel_rfl) (by kernel_rfl) (by kernel_rfl) (fun _ _ _ h => h) (Or.inl ⟨by rfl, ?_⟩) hHeld ?_
          rotate_left
          · intro w hSw
            (try dsimp only at hSw)
            go_simp
            try with_reducible rfl
          (try simp only [Act.put]); (try simp only [List.setIfInBounds_toArray]); (repeat (first | simp only [List.set_cons_succ] | simp only [List.set_cons_zero]))
          refine wpAnyH_take (i := 4) (v := ?_) rfl (by kernel_rfl) (by kernel_rfl) (by kernel_rfl) (fun _ _ _ h => h) (Or.inl ⟨by rfl, ?_⟩) hHeld ?_
          rotate_left
          · intro w hSw
            (try dsimp only at hSw)
            have y := hSw 4 _ rfl
            go_simp
            try with_reducible rfl
          (try simp only [Act.put]); (try simp only [List.setIfInBounds_toArray]); (repeat (first | simp only [List.set_cons_succ] | simp only [List.set_cons_zero]))
          refine wpAnyH_take (i := 5) (v := ?_) rfl (by kernel_rfl) (by kernel_rfl) (by kernel_rfl) (fun _ _ _ h => h) (Or.inl ⟨by rfl, ?_⟩) hHeld ?_
          rotate_left
          · intro w hSw
            (try dsimp only at hSw)
            go_simp
            try with_reducible rfl
          (try simp only [Act.put]); (try simp only [List.setIfInBounds_toArray]); (repeat (first | simp only [List.set_cons_succ] | simp only [List.set_cons_zero]))
          refine wpAnyH_take (i := 6) (v := ?_) rfl (by kernel_rfl) (by kernel_rfl) (by kernel_rfl) (fun _ _ _ h => h) (Or.inl ⟨by rfl, ?_⟩) hHeld ?_
          rotate_left
          · intro w hSw
            (try dsimp only at hSw)
            have y := hSw 5 _ rfl
            go_simp
            try with_reducible rfl
          (try simp only [Act.put]); (try simp only [List.setIfInBounds_toArray]); (repeat (first | simp only [List.set_cons_succ] | simp only [List.set_cons_zero]))
          refine wpAnyH_take (i := 8) (v := ?_) rfl (by kernel_rfl) (by kernel_rfl) (by kernel_rfl) (fun _ _ _ h => h) (Or.inl ⟨by rfl, ?_⟩) hHeld ?_
          rotate_left
          · intro w hSw
            (try dsimp only at hSw)
            go_simp
            try with_reducible rfl
          (try simp only [Act.put]); (try simp only [List.setIfInBounds_toArray]); (repeat (first | simp only [List.set_cons_succ] | simp only [List.set_cons_zero]))
          refine wpAnyH_take (i := 9) (v := ?_) rfl (by kernel_rfl) (by kernel_rfl) (by kernel_rfl) (fun _ _ _ h => h) (Or.inl ⟨by rfl, ?_⟩) hHeld ?_
          rotate_left
          · intro w hSw
            (try dsimp only at hSw)
            go_simp
            try with_reducible rfl
          (try simp only [Act.put]); (try simp only [List.setIfInBounds_toArray]); (repeat (first | simp only [List.set_cons_succ] | simp only [List.set_cons_zero]))
          refine wpAnyH_take (i := 10) (v := ?_) rfl (by kernel_rfl) (by kernel_rfl) (by kernel_rfl) (fun _ _ _ h => h) (Or.inl ⟨by rfl, ?_⟩) hHeld ?_
          rotate_left
          · intro w hSw
            (try dsimp only at hSw)
            have y := hSw 3 _ rfl
            go_simp
            try with_reducible rfl
          (try simp only [Act.put]); (try simp only [List.setIfInBounds_toArray]); (repeat (first | simp only [List.set_cons_succ] | simp only [List.set_cons_zero]))
          refine wpAnyH_take (i := 11) (v := ?_) rfl (by kernel_rfl) (by kernel_rfl) (by kernel_rfl) (fun _ _ _ h => h) (Or.inl ⟨by rfl, ?_⟩) hHeld ?_
          rotate_left
          · intro w hSw
            (try dsimp only at hSw)
            go_simp
            try with_reducible rfl
          (try simp only [Act.put]); (try simp only [List.setIfInBounds_toArray]); (repeat (first | simp only [List.set_cons_succ] | simp only [List.set_cons_zero]))
          refine wpAnyH_take (i := 12) (v := ?_) rfl (by kernel_rfl) (by kernel_rfl) (by kernel_rfl) (fun _ _ _ h => h) (Or.inl ⟨by rfl, ?_⟩) hHeld ?_
          rotate_left
          · intro w hSw
            (try dsimp only at hSw)
            have y := hSw 4 _ rfl
            go_simp
            try with_reducible rfl
          (try simp only [Act.put]); (try simp only [List.setIfInBounds_toArray]); (repeat (first | simp only [List.set_cons_succ] | simp only [List.set_cons_zero]))
          refine wpAnyH_take (i := 13) (v := ?_) rfl (by kernel_rfl) (by kernel_rfl) (by kernel_rfl) (fun _ _ _ h => h) (Or.inl ⟨by rfl, ?_⟩) hHeld ?_
          rotate_left
          · intro w hSw
            (try dsimp only at hSw)
            go_simp
            try with_reducible rfl
          (try simp only [Act.put]); (try simp only [List.setIfInBounds_toArray]); (repeat (first | simp only [List.set_cons_succ] | simp only [List.set_cons_zero]))
          refine wpAnyH_take (i := 14) (v := ?_) rfl (by kernel_rfl) (by kernel_rfl) (by kernel_rfl) (fun _ _ _ h => h) (Or.inl ⟨by rfl, ?_⟩) hHeld ?_
          rotate_left
          · intro w hSw
            (try dsimp only at hSw)
            have y := hSw 5 _ rfl
            go_simp
            try with_reducible rfl
          (try simp only [Act.put]); (try simp only [List.setIfInBounds_toArray]); (repeat (first | simp only [List.set_cons_succ] | simp only [List.set_cons_zero]))
          refine wpAnyH_ready (rs := [7]) (by kernel_rfl) (by simp) ?_
          refine AllReadyH.cons rfl (fun KK hKK => ?_) AllReadyH.nil
          go_simp
          go_at_call 9
          refine (v_cas v b 256 next 0 o.th o.ad o.a o.b F cs l8 _ (HVd.out.pv) HBd.out HV8.out.nv (by omega) (by omega) HOK.out.ad HOK.out.b).mono ?_
          rintro e Y ⟨rfl, F2, vs, B2, V2, G2⟩
          obtain ⟨LY, VY, XY⟩ := HVd.out.plain G2
          have HB2 := keepH B2
          have HG2 := keepH G2
          have HLY := keepH LY
          have HVY := keepH VY
          have HXY := keepH XY
          clear B2 V2 G2 LY VY XY
          try go_wp2_with fail
          refine hKK.out _ _ ?_ (fun hHeld => ?_)
          · exact fun i u hu => by rw [cell_of HXY.out i]; exact hu
          clear hKK KK
          (try simp only [Act.put]); (try simp only [List.setIfInBounds_toArray]); (repeat (first | simp only [List.set_cons_succ] | simp only [List.set_cons_zero]))
          refine wpAnyH_ready (rs := [15]) (by kernel_rfl) (by simp) ?_
          refine AllReadyH.cons rfl (fun KK hKK => ?_) AllReadyH.nil
          go_simp
          go_at_call 9
          refine (vl_cas o.ad o.a o.b HOK.out.ad HOK.out.b HVY.out HLY.out (by omega)).mono ?_
          rintro e Z ⟨rfl, LZ, VZ, CZ⟩
          obtain ⟨AZ, XZ⟩ := HVd.out.both HG2.out HB2.out (by simp; omega) LZ CZ
          have HAZ := keepH AZ
          have HXZ := keepH XZ
          have HVZ := keepH VZ
          clear LZ VZ CZ AZ XZ
          try go_wp2_with fail
          refine hKK.out _ _ ?_ (fun hHeld => ?_)
          · exact fun i u hu => by rw [cell_of HXZ.out i]; exact hu
          clear hKK KK
          (try simp only [Act.put]); (try simp only [List.setIfInBounds_toArray]); (repeat (first | simp only [List.set_cons_succ] | simp only [List.set_cons_zero]))
          refine wpAnyH_take (i := 16) (v := ?_) rfl (by kernel_rfl) (by kernel_rfl) (by kernel_rfl) (fun _ _ _ h => h) (Or.inl ⟨by rfl, ?_⟩) hHeld ?_
          rotate_left
          · intro w hSw
            (try dsimp only at hSw)
            go_simp
            try with_reducible rfl
          (try simp only [Act.put]); (try simp only [List.setIfInBounds_toArray]); (repeat (first | simp only [List.set_cons_succ] | simp only [List.set_cons_zero]))
          refine wpAnyH_take (i := 17) (v := ?_) rfl (by kernel_rfl) (by kernel_rfl) (by kernel_rfl) (fun _ _ _ h => h) (Or.inl ⟨by rfl, ?_⟩) hHeld ?_
          rotate_left
          · intro w hSw
            (try dsimp only at hSw)
            go_simp
            try with_reducible rfl
          (try simp only [Act.put]); (try simp only [List.setIfInBounds_toArray]); (repeat (first | simp only [List.set_cons_succ] | simp only [List.set_cons_zero]))
          refine wpAnyH_done (by kernel_rfl) ?_ _
          go_simp
          obtain ⟨l9, B9, hl9⟩ := HAZ.out.pb
          have HB9 := keepH B9
          clear B9 hl9
          go_wp2_with fail
          refine (vl_acc HVZ.out).mono ?_
          rintro e w9 ⟨rfl, rfl⟩
          go_wp2_with fail
          refine (m_left m b 256 _ _ _ l9 _ HAZ.out.pm HB9.out).mono ?_
          rintro e wa ⟨rfl, q, rfl⟩
          have HAq := keepH (HAZ.out.quiet (Goes.drewN w9 (fun _ => False) q).chg)
          go_wp2_with fail
          refine (m_leftL HAq.out.lm HAq.out.L).mono ?_
          rintro e wb ⟨rfl, q2, rfl⟩
          go_wp2_with fail
          exact ⟨⟨k + 1, _, _, _, by omega, by simp, HAZ.out.quiet (Goes.drewN w9 (fun _ => False) _).chg⟩, by simp [intOf]; omega⟩
        · subst hr
          have hS0 : ∀ i u, (#[.int .i64 o.k, .int .i64 o.wh, .int .i64 o.th, .int .u64 (o.ad : Int), .int .u64 (o.a : Int), .int .u64 (o.b : Int), .slice o.p o.vals.length o.c] : Array Value)[i]? = some u → X2.drew.cell? ⟨bx, i, none⟩ = some u := fun i u hu => by rw [show X2.drew.cell? ⟨bx, i, none⟩ = X2.cell? ⟨bx, i, none⟩ from rfl, cell_of HV8.out.bxh i]; exact hu
          go_upto_region 20 with fail
          refine wp_region_held_drew (S := (fun wd => ∀ i u, (#[.int .i64 o.k, .int .i64 o.wh, .int .i64 o.th, .int .u64 (o.ad : Int), .int .u64 (o.a : Int), .int .u64 (o.b : Int), .slice o.p o.vals.length o.c] : Array Value)[i]? = some u → wd.cell? ⟨bx, i, none⟩ = some u)) (by kernel_rfl) (hS0) ?_
          intro hHeld
          refine wpAnyH_take (i := 0) (v := ?_) rfl (by kernel_rfl) (by kernel_rfl) (by kernel_rfl) (fun _ _ _ h => h) (Or.inl ⟨by rfl, ?_⟩) hHeld ?_
          rotate_left
          · intro w hSw
            (try dsimp only at hSw)
            go_simp
            try with_reducible rfl
          (try simp only [Act.put]); (try simp only [List.setIfInBounds_toArray]); (repeat (first | simp only [List.set_cons_succ] | simp only [List.set_cons_zero]))
          refine wpAnyH_take (i := 1) (v := ?_) rfl (by kernel_rfl) (by kernel_rfl) (by kernel_rfl) (fun _ _ _ h => h) (Or.inl ⟨by rfl, ?_⟩) hHeld ?_
          rotate_left
          · intro w hSw
            (try dsimp only at hSw)
            go_simp
            try with_reducible rfl
          (try simp only [Act.put]); (try simp only [List.setIfInBounds_toArray]); (repeat (first | simp only [List.set_cons_succ] | simp only [List.set_cons_zero]))
          refine wpAnyH_take (i := 2) (v := ?_) rfl (by kernel_rfl) (by kernel_rfl) (by kernel_rfl) (fun _ _ _ h => h) (Or.inl ⟨by rfl, ?_⟩) hHeld ?_
          rotate_left
          · intro w hSw
            (try dsimp only at hSw)
            have y := hSw 3 _ rfl
            go_simp
            try with_reducible rfl
          (try simp only [Act.put]); (try simp only [List.setIfInBounds_toArray]); (repeat (first | simp only [List.set_cons_succ] | simp only [List.set_cons_zero]))
          refine wpAnyH_take (i := 3) (v := ?_) rfl (by kernel_rfl) (by kernel_rfl) (by kernel_rfl) (fun _ _ _ h => h) (Or.inl ⟨by rfl, ?_⟩) hHeld ?_
          rotate_left
          · intro w hSw
            (try dsimp only at hSw)
            go_simp
            try with_reducible rfl
          (try simp only [Act.put]); (try simp only [List.setIfInBounds_toArray]); (repeat (first | simp only [List.set_cons_succ] | simp only [List.set_cons_zero]))
          refine wpAnyH_take (i := 4) (v := ?_) rfl (by kernel_rfl) (by kernel_rfl) (by kernel_rfl) (fun _ _ _ h => h) (Or.inl ⟨by rfl, ?_⟩) hHeld ?_
          rotate_left
          · intro w hSw
            (try dsimp only at hSw)
            have y := hSw 4 _ rfl
            go_simp
            try with_reducible rfl
          (try simp only [Act.put]); (try simp only [List.setIfInBounds_toArray]); (repeat (first | simp only [List.set_cons_succ] | simp only [List.set_cons_zero]))
          refine wpAnyH_take (i := 6) (v := ?_) rfl (by kernel_rfl) (by kernel_rfl) (by kernel_rfl) (fun _ _ _ h => h) (Or.inl ⟨by rfl, ?_⟩) hHeld ?_
          rotate_left
          · intro w hSw
            (try dsimp only at hSw)
            go_simp
            try with_reducible rfl
          (try simp only [Act.put]); (try simp only [List.setIfInBounds_toArray]); (repeat (first | simp only [List.set_cons_succ] | simp only [List.set_cons_zero]))
          refine wpAnyH_take (i := 7) (v := ?_) rfl (by kernel_rfl) (by kernel_rfl) (by kernel_rfl) (fun _ _ _ h => h) (Or.inl ⟨by rfl, ?_⟩) hHeld ?_
          rotate_left
          · intro w hSw
            (try dsimp only at hSw)
            go_simp
            try with_reducible rfl
          (try simp only [Act.put]); (try simp only [List.setIfInBounds_toArray]); (repeat (first | simp only [List.set_cons_succ] | simp only [List.set_cons_zero]))
          refine wpAnyH_take (i := 8) (v := ?_) rfl (by kernel_rfl) (by kernel_rfl) (by kernel_rfl) (fun _ _ _ h => h) (Or.inl ⟨by rfl, ?_⟩) hHeld ?_
          rotate_left
          · intro w hSw
            (try dsimp only at hSw)
            have y := hSw 3 _ rfl
            go_simp
            try with_reducible rfl
          (try simp only [Act.put]); (try simp only [List.setIfInBounds_toArray]); (repeat (first | simp only [List.set_cons_succ] | simp only [List.set_cons_zero]))
          refine wpAnyH_take (i := 9) (v := ?_) rfl (by kernel_rfl) (by kernel_rfl) (by kernel_rfl) (fun _ _ _ h => h) (Or.inl ⟨by rfl, ?_⟩) hHeld ?_
          rotate_left
          · intro w hSw
            (try dsimp only at hSw)
            go_simp
            try with_reducible rfl
          (try simp only [Act.put]); (try simp only [List.setIfInBounds_toArray]); (repeat (first | simp only [List.set_cons_succ] | simp only [List.set_cons_zero]))
          refine wpAnyH_take (i := 10) (v := ?_) rfl (by kernel_rfl) (by kernel_rfl) (by kernel_rfl) (fun _ _ _ h => h) (Or.inl ⟨by rfl, ?_⟩) hHeld ?_
          rotate_left
          · intro w hSw
            (try dsimp only at hSw)
            have y := hSw 4 _ rfl
            go_simp
            try with_reducible rfl
          (try simp only [Act.put]); (try simp only [List.setIfInBounds_toArray]); (repeat (first | simp only [List.set_cons_succ] | simp only [List.set_cons_zero]))
          refine wpAnyH_ready (rs := [5]) (by kernel_rfl) (by simp) ?_
          refine AllReadyH.cons rfl (fun KK hKK => ?_) AllReadyH.nil
          go_simp
          go_at_call 10
          refine (v_add v b 256 next 0 o.th o.ad o.a F cs l8 _ (HVd.out.pv) HBd.out HV8.out.nv (by omega) (by omega) HOK.out.ad).mono ?_
          rintro e Y ⟨rfl, F2, vs, B2, V2, G2⟩
          obtain ⟨LY, VY, XY⟩ := HVd.out.plain G2
          have HB2 := keepH B2
          have HG2 := keepH G2
          have HLY := keepH LY
          have HVY := keepH VY
          have HXY := keepH XY
          clear B2 V2 G2 LY VY XY
          try go_wp2_with fail
          refine hKK.out _ _ ?_ (fun hHeld => ?_)
          · exact fun i u hu => by rw [cell_of HXY.out i]; exact hu
          clear hKK KK
          (try simp only [Act.put]); (try simp only [List.setIfInBounds_toArray]); (repeat (first | simp only [List.set_cons_succ] | simp only [List.set_cons_zero]))
          refine wpAnyH_ready (rs := [11]) (by kernel_rfl) (by simp) ?_
          refine AllReadyH.cons rfl (fun KK hKK => ?_) AllReadyH.nil
          go_simp
          go_at_call 10
          refine (vl_add o.ad o.a HOK.out.ad HOK.out.a HVY.out HLY.out (by omega)).mono ?_
          rintro e Z ⟨rfl, LZ, VZ, CZ⟩
          obtain ⟨AZ, XZ⟩ := HVd.out.both HG2.out HB2.out (by simp; omega) LZ CZ
          have HAZ := keepH AZ
          have HXZ := keepH XZ
          have HVZ := keepH VZ
          clear LZ VZ CZ AZ XZ
          try go_wp2_with fail
          refine hKK.out _ _ ?_ (fun hHeld => ?_)
          · exact fun i u hu => by rw [cell_of HXZ.out i]; exact hu
          clear hKK KK
          (try simp only [Act.put]); (try simp only [List.setIfInBounds_toArray]); (repeat (first | simp only [List.set_cons_succ] | simp only [List.set_cons_zero]))
          refine wpAnyH_take (i := 12) (v := ?_) rfl (by kernel_rfl) (by kernel_rfl) (by kernel_rfl) (fun _ _ _ h => h) (Or.inl ⟨by rfl, ?_⟩) hHeld ?_
          rotate_left
          · intro w hSw
            (try dsimp only at hSw)
            go_simp
            try with_reducible rfl
          (try simp only [Act.put]); (try simp only [List.setIfInBounds_toArray]); (repeat (first | simp only [List.set_cons_succ] | simp only [List.set_cons_zero]))
          refine wpAnyH_take (i := 13) (v := ?_) rfl (by kernel_rfl) (by kernel_rfl) (by kernel_rfl) (fun _ _ _ h => h) (Or.inl ⟨by rfl, ?_⟩) hHeld ?_
          rotate_left
          · intro w hSw
            (try dsimp only at hSw)
            go_simp
            try with_reducible rfl
          (try simp only [Act.put]); (try simp only [List.setIfInBounds_toArray]); (repeat (first | simp only [List.set_cons_succ] | simp only [List.set_cons_zero]))
          refine wpAnyH_done (by kernel_rfl) ?_ _
          go_simp
          obtain ⟨l9, B9, hl9⟩ := HAZ.out.pb
          have HB9 := keepH B9
          clear B9 hl9
          go_wp2_with fail
          refine (vl_acc HVZ.out).mono ?_
          rintro e w9 ⟨rfl, rfl⟩
          go_wp2_with fail
          refine (m_left m b 256 _ _ _ l9 _ HAZ.out.pm HB9.out).mono ?_
          rintro e wa ⟨rfl, q, rfl⟩
          have HAq := keepH (HAZ.out.quiet (Goes.drewN w9 (fun _ => False) q).chg)
          go_wp2_with fail
          refine (m_leftL HAq.out.lm HAq.out.L).mono ?_
          rintro e wb ⟨rfl, q2, rfl⟩
          go_wp2_with fail
          exact ⟨⟨k + 1, _, _, _, by omega, by simp, HAZ.out.quiet (Goes.drewN w9 (fun _ => False) _).chg⟩, by simp [intOf]; omega⟩
        · subst hr
          have hS0 : ∀ i u, (#[.int .i64 o.k, .int .i64 o.wh, .int .i64 o.th, .int .u64 (o.ad : Int), .int .u64 (o.a : Int), .int .u64 (o.b : Int), .slice o.p o.vals.length o.c] : Array Value)[i]? = some u → X2.drew.cell? ⟨bx, i, none⟩ = some u := fun i u hu => by rw [show X2.drew.cell? ⟨bx, i, none⟩ = X2.cell? ⟨bx, i, none⟩ from rfl, cell_of HV8.out.bxh i]; exact hu
          go_upto_region 11 with fail
          refine wp_region_held_drew (S := (fun wd => ∀ i u, (#[.int .i64 o.k, .int .i64 o.wh, .int .i64 o.th, .int .u64 (o.ad : Int), .int .u64 (o.a : Int), .int .u64 (o.b : Int), .slice o.p o.vals.length o.c] : Array Value)[i]? = some u → wd.cell? ⟨bx, i, none⟩ = some u)) (by kernel_rfl) (hS0) ?_
          intro hHeld
          refine wpAnyH_take (i := 0) (v := ?_) rfl (by kernel_rfl) (by kernel_rfl) (by kernel_rfl) (fun _ _ _ h => h) (Or.inl ⟨by rfl, ?_⟩) hHeld ?_
          rotate_left
          · intro w hSw
            (try dsimp only at hSw)
            go_simp
            try with_reducible rfl
          (try simp only [Act.put]); (try simp only [List.setIfInBounds_toArray]); (repeat (first | simp only [List.set_cons_succ] | simp only [List.set_cons_zero]))
          refine wpAnyH_take (i := 1) (v := ?_) rfl (by kernel_rfl) (by kernel_rfl) (by kernel_rfl) (fun _ _ _ h => h) (Or.inl ⟨by rfl, ?_⟩) hHeld ?_
          rotate_left
          · intro w hSw
            (try dsimp only at hSw)
            go_simp
            try with_reducible rfl
          (try simp only [Act.put]); (try simp only [List.setIfInBounds_toArray]); (repeat (first | simp only [List.set_cons_succ] | simp only [List.set_cons_zero]))
          refine wpAnyH_take (i := 2) (v := ?_) rfl (by kernel_rfl) (by kernel_rfl) (by kernel_rfl) (fun _ _ _ h => h) (Or.inl ⟨by rfl, ?_⟩) hHeld ?_
          rotate_left
          · intro w hSw
            (try dsimp only at hSw)
            have y := hSw 6 _ rfl
            go_simp
            try with_reducible rfl
          (try simp only [Act.put]); (try simp only [List.setIfInBounds_toArray]); (repeat (first | simp only [List.set_cons_succ] | simp only [List.set_cons_zero]))
          refine wpAnyH_take (i := 4) (v := ?_) rfl (by kernel_rfl) (by kernel_rfl) (by kernel_rfl) (fun _ _ _ h => h) (Or.inl ⟨by rfl, ?_⟩) hHeld ?_
          rotate_left
          · intro w hSw
            (try dsimp only at hSw)
            go_simp
            try with_reducible rfl
          (try simp only [Act.put]); (try simp only [List.setIfInBounds_toArray]); (repeat (first | simp only [List.set_cons_succ] | simp only [List.set_cons_zero]))
          refine wpAnyH_take (i := 5) (v := ?_) rfl (by kernel_rfl) (by kernel_rfl) (by kernel_rfl) (fun _ _ _ h => h) (Or.inl ⟨by rfl, ?_⟩) hHeld ?_
          rotate_left
          · intro w hSw
            (try dsimp only at hSw)
            go_simp
            try with_reducible rfl
          (try simp only [Act.put]); (try simp only [List.setIfInBounds_toArray]); (repeat (first | simp only [List.set_cons_succ] | simp only [List.set_cons_zero]))
          refine wpAnyH_take (i := 6) (v := ?_) rfl (by kernel_rfl) (by kernel_rfl) (by kernel_rfl) (fun _ _ _ h => h) (Or.inl ⟨by rfl, ?_⟩) hHeld ?_
          rotate_left
          · intro w hSw
            (try dsimp only at hSw)
            have y := hSw 6 _ rfl
            go_simp
            try with_reducible rfl
          (try simp only [Act.put]); (try simp only [List.setIfInBounds_toArray]); (repeat (first | simp only [List.set_cons_succ] | simp only [List.set_cons_zero]))
          refine wpAnyH_ready (rs := [3]) (by kernel_rfl) (by simp) ?_
          refine AllReadyH.cons rfl (fun KK hKK => ?_) AllReadyH.nil
          go_simp
          go_at_call 11
          refine (v_alloc v b 256 next 0 o.th o.p o.c o.vals F cs l8 _ HVd.out.pv HBd.out HV8.out.nv (by omega) (by omega) HRd.out HRf.out HRv.out HOK.out.small (by omega)).mono ?_
          rintro e Y ⟨rfl, F2, vs, B2, V2, G2⟩
          obtain ⟨LY, VY, XY⟩ := HVd.out.plain G2
          have HB2 := keepH B2
          have HG2 := keepH G2
          have HLY := keepH LY
          have HVY := keepH VY
          have HXY := keepH XY
          clear B2 V2 G2 LY VY XY
          try go_wp2_with fail
          refine hKK.out _ _ ?_ (fun hHeld => ?_)
          · exact fun i u hu => by rw [cell_of HXY.out i]; exact hu
          clear hKK KK
          (try simp only [Act.put]); (try simp only [List.setIfInBounds_toArray]); (repeat (first | simp only [List.set_cons_succ] | simp only [List.set_cons_zero]))
          refine wpAnyH_ready (rs := [7]) (by kernel_rfl) (by simp) ?_
          refine AllReadyH.cons rfl (fun KK hKK => ?_) AllReadyH.nil
          go_simp
          go_at_call 11
          refine (vl_alloc o.p o.c o.vals (HRd.out.chg HG2.out.chg (fun ad e ne z => z.elim (HRf.out ad e ne) (HRv.out ad e ne))) HRl.out HOK.out.small (by omega) HVY.out HLY.out (by omega)).mono ?_
          rintro e Z ⟨rfl, LZ, VZ, CZ⟩
          obtain ⟨AZ, XZ⟩ := HVd.out.both HG2.out HB2.out (by simp; omega) LZ CZ
          have HAZ := keepH AZ
          have HXZ := keepH XZ
          have HVZ := keepH VZ
          clear LZ VZ CZ AZ XZ
          try go_wp2_with fail
          refine hKK.out _ _ ?_ (fun hHeld => ?_)
          · exact fun i u hu => by rw [cell_of HXZ.out i]; exact hu
          clear hKK KK
          (try simp only [Act.put]); (try simp only [List.setIfInBounds_toArray]); (repeat (first | simp only [List.set_cons_succ] | simp only [List.set_cons_zero]))
          refine wpAnyH_take (i := 8) (v := ?_) rfl (by kernel_rfl) (by kernel_rfl) (by kernel_rfl) (fun _ _ _ h => h) (Or.inl ⟨by rfl, ?_⟩) hHeld ?_
          rotate_left
          · intro w hSw
            (try dsimp only at hSw)
            go_simp
            try with_reducible rfl
          (try simp only [Act.put]); (try simp only [List.setIfInBounds_toArray]); (repeat (first | simp only [List.set_cons_succ] | simp only [List.set_cons_zero]))
          refine wpAnyH_take (i := 9) (v := ?_) rfl (by kernel_rfl) (by kernel_rfl) (by kernel_rfl) (fun _ _ _ h => h) (Or.inl ⟨by rfl, ?_⟩) hHeld ?_
          rotate_left
          · intro w hSw
            (try dsimp only at hSw)
            go_simp
            try with_reducible rfl
          (try simp only [Act.put]); (try simp only [List.setIfInBounds_toArray]); (repeat (first | simp only [List.set_cons_succ] | simp only [List.set_cons_zero]))
          refine wpAnyH_done (by kernel_rfl) ?_ _
          go_simp
          obtain ⟨l9, B9, hl9⟩ := HAZ.out.pb
          have HB9 := keepH B9
          clear B9 hl9
          go_wp2_with fail
          refine (vl_acc HVZ.out).mono ?_
          rintro e w9 ⟨rfl, rfl⟩
          go_wp2_with fail
          refine (m_left m b 256 _ _ _ l9 _ HAZ.out.pm HB9.out).mono ?_
          rintro e wa ⟨rfl, q, rfl⟩
          have HAq := keepH (HAZ.out.quiet (Goes.drewN w9 (fun _ => False) q).chg)
          go_wp2_with fail
          refine (m_leftL HAq.out.lm HAq.out.L).mono ?_
          rintro e wb ⟨rfl, q2, rfl⟩
          go_wp2_with fail
          exact ⟨⟨k + 1, _, _, _, by omega, by simp, HAZ.out.quiet (Goes.drewN w9 (fun _ => False) _).chg⟩, by simp [intOf]; omega⟩
    · have t1 : ¬ (k : Int) < (ops.length : Int) := by omega
      go_wp2_with fail
      go_loopw [12] (fun s12 wi => ∃ i : Nat, i ≤ 256 ∧ s12 = .int .u64 (i : Int) ∧ wi = wr) (fun s12 _ => 256 - (intOf s12).toNat)
      case atStart => exact ⟨0, by omega, rfl, rfl⟩
      case round =>
        obtain ⟨i, hi, rfl, rfl⟩ := hrel
        by_cases hi2 : i < 256
        · have t2 : (i : Int) < 256 := by omega
          obtain ⟨l9, B9, hl9⟩ := HA.out.pb
          have HB9 := keepH B9
          clear B9 hl9
          go_wp2_with fail
          refine (m_peek m b 256 next i F cs l9 _ HA.out.pm HB9.out (by omega)).mono ?_
          rintro e wa ⟨rfl, rfl⟩
          go_wp2_with fail
          refine (m_peekL HA.out.lm HA.out.L i (by omega)).mono ?_
          rintro e wb ⟨rfl, rfl⟩
          go_wp2_with fail
          exact ⟨⟨i + 1, by omega, by simp, by first | rfl | trivial⟩, by simp [intOf]; omega⟩
        · have t2 : ¬ (i : Int) < 256 := by omega
          go_wp2_with fail
          refine (a_live _).mono ?_
          rintro e wa ⟨rfl, Ca⟩
          have HAa := keepH (HA.out.quiet Ca)
          clear Ca
          go_wp2_with fail
          refine (m_traceL HAa.out.lm).mono ?_
          rintro e wb ⟨rfl, rfl⟩
          go_wp2_with fail
          refine (m_liveL HAa.out.lm).mono ?_
          rintro e wd ⟨rfl, rfl⟩
          go_wp2_with fail
          refine (m_live m b _ HAa.out.pm).mono ?_
          rintro e we ⟨rfl, rfl⟩
          go_wp2_with fail
          go_ret
          exact ⟨by simp, HAa.out.chg⟩
end Go.Proofs.Ytdhlgmbmpipppaa
