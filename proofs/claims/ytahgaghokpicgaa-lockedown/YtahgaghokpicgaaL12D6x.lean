/- The document's answer for the store behind a lock: New, Do. (mkD6x.py) -/
import Derived.Test.YtahgaghokpicgaaL11D6w
namespace Go.Proofs.Ytahgaghokpicgaa
open Go.RowKit Go.Maps
set_option linter.unusedVariables false
set_option linter.unusedSimpArgs false

theorem R25.mono {A : Nat → Prop} {W : World} {s m G D : Nat} {c0 : Int} {N st : Nat} {mu : Int} {tk n : Nat} {g : Nat → Option Nat} {l : List (Nat × Nat)} {H : HeldL} (h : R25 A W s m G D c0 N st mu tk n g l H) : s < W.heap.size ∧ m < W.heap.size ∧ G < W.heap.size ∧ D < W.heap.size := by
  obtain ⟨cm, hm⟩ := h.mod.md
  obtain ⟨cg, hg, -⟩ := h.gr
  obtain ⟨cd, hd, -⟩ := h.dr
  exact ⟨lt_of h.at_, lt_of hm, lt_of hg, lt_of hd⟩
theorem there7 {w : World} {R : Nat} {y0 y1 y2 y3 y4 y5 y6 : Value} (h : w.heap[R]? = some (.cells #[y0, y1, y2, y3, y4, y5, y6] 38 (0, 0))) : w.there R 0 7 := fun j hj => ⟨by rw [cell_of h]; match j, hj with | 0, _ => rfl | 1, _ => rfl | 2, _ => rfl | 3, _ => rfl | 4, _ => rfl | 5, _ => rfl | 6, _ => rfl, free_of h _⟩
theorem R25.box {A : Nat → Prop} {wr : World} {s m G D : Nat} {c0 : Int} {N st : Nat} {mu : Int} {tk n : Nat} {g : Nat → Option Nat} {l : List (Nat × Nat)} {H : HeldL} (h : R25 A wr s m G D c0 N st mu tk n g l H) {R : Nat} {ar : Array Value} {p : Nat × Nat} (q : wr.heap[R]? = some (.cells ar 38 p)) (xs : List Value) : R25 A (wr.setCells R 0 xs) s m G D c0 N st mu tk n g l H := by
  obtain ⟨cm, hm⟩ := h.mod.md
  obtain ⟨cg, hg, -⟩ := h.gr
  obtain ⟨cd, hd, -⟩ := h.dr
  have c := chg_seven (w := wr) (R := R) xs 0
  refine ⟨(c.block s (lt_of h.at_) (ne_ty h.at_ q (by decide))).trans h.at_, h.gr.chg c (ne_ty hg q (by decide)), h.dr.chg c (ne_ty hd q (by decide)), h.mod.chg c ?_, h.slot, h.cnt⟩
  rintro k rfl cs t p hk
  rw [q] at hk; injection hk with hk; injection hk with _ hk; subst hk; exact ⟨fun x => absurd x (by decide), by decide, by decide⟩
theorem QB.past {F K : Nat → Prop} {W : World} {P R : Nat} {row ar : Array Value} {wr X : World} (h : QB F W P R row ar wr) (c : Chg K wr X) (hk : ∀ k, K k → ¬ k = P ∧ ¬ k = R ∧ W.heap.size ≤ k) : QB F W P R row ar X :=
  ⟨(c.block P (lt_of h.ox) (fun x => (hk P x).1 rfl)).trans h.ox, (c.block R (lt_of h.ax) (fun x => (hk R x).2.1 rfl)).trans h.ax, h.ch.trans c (fun _ _ x => x) (fun k hl x => by have := (hk k x).2.2; omega), h.lR, h.lP⟩
set_option maxRecDepth 100000 in
set_option maxHeartbeats 8000000 in
theorem r25_do5 {A : Nat → Prop} {W : World} {s m G D : Nat} {c0 : Int} {N st : Nat} {mu : Int} {tk n : Nat} {g : Nat → Option Nat} {l : List (Nat × Nat)} {H : HeldL} (R5 : R25 A W s m G D c0 N st mu tk n g l H) (hN : N ≤ 256) (hst : 1 ≤ st ∧ st ≤ 4000000) (htk : tk ≤ st) (hgl : l.length ≤ 4398046510000) (hb : ∀ z ∈ H, z.2.2.length ≤ 4398046510000) (hA : ∀ b, A b → b < W.heap.size)
    {k x hk9 : Nat} (hk : k < 18446744073709551616) (hx : x < 18446744073709551616) {od r6 r7 : Int} {r5 : Bool} {kp : Option Addr} {kn kc lo hi : Nat} {ks : List Nat} (hks : KeysAt W kp ks) (hkl : mu ≤ 4398046510000) (hkn : kn = ks.length) (hkb : ∀ bk off, kp = some ⟨bk, off, none⟩ → ks ≠ [] → bk ≠ s ∧ bk ≠ m ∧ bk ≠ G ∧ bk ≠ D) (hn9 : n ≤ 4000000000000000000)  :
    Calls Try.prog 13 #[.pointer (some ⟨s, 0, none⟩), .agg #[.int .u8 5, .int .u64 (k : Int), .int .u64 (x : Int), .int .u64 od, .int .u64 (hk9 : Int), .bool r5, .int .i64 r6, .int .i64 r7, .slice kp kn kc, .int .u64 (lo : Int), .int .u64 (hi : Int)]] W fun e W' => (∃ v, e = .returned v) ∧ Left25 A W s m G D c0 N st mu (n + 1) tk g l H W' := by
  have lb := R5.mono
  have HQ := QB.two (fun k => k = s ∨ k = m ∨ k = G ∨ k = D) W #[.int .u8 5, .int .u64 (k : Int), .int .u64 (x : Int), .int .u64 od, .int .u64 (hk9 : Int), .bool r5, .int .i64 r6, .int .i64 r7, .slice kp kn kc, .int .u64 (lo : Int), .int .u64 (hi : Int)] #[.int .i64 0, .bool false, .int .u64 0, .bool false, .int .u64 0, .slice none 0 0, .int .u64 0]
  have HR := R5.quiet (((Chg.refl _ W).alloc (.cells #[.int .u8 5, .int .u64 (k : Int), .int .u64 (x : Int), .int .u64 od, .int .u64 (hk9 : Int), .bool r5, .int .i64 r6, .int .i64 r7, .slice kp kn kc, .int .u64 (lo : Int), .int .u64 (hi : Int)] 34)).alloc (.cells #[.int .i64 0, .bool false, .int .u64 0, .bool false, .int .u64 0, .slice none 0 0, .int .u64 0] 38))
  have HKS := hks.chg (((Chg.refl (fun _ => False) W).alloc (.cells #[.int .u8 5, .int .u64 (k : Int), .int .u64 (x : Int), .int .u64 od, .int .u64 (hk9 : Int), .bool r5, .int .i64 r6, .int .i64 r7, .slice kp kn kc, .int .u64 (lo : Int), .int .u64 (hi : Int)] 34)).alloc (.cells #[.int .i64 0, .bool false, .int .u64 0, .bool false, .int .u64 0, .slice none 0 0, .int .u64 0] 38)) (fun _ _ _ x => x)
  obtain ⟨w1, hw1⟩ : ∃ w1, w1 = (W.alloc (.cells #[.int .u8 5, .int .u64 (k : Int), .int .u64 (x : Int), .int .u64 od, .int .u64 (hk9 : Int), .bool r5, .int .i64 r6, .int .i64 r7, .slice kp kn kc, .int .u64 (lo : Int), .int .u64 (hi : Int)] 34)).alloc (.cells #[.int .i64 0, .bool false, .int .u64 0, .bool false, .int .u64 0, .slice none 0 0, .int .u64 0] 38) := ⟨_, rfl⟩
  obtain ⟨P, hP⟩ : ∃ P, P = W.heap.size := ⟨_, rfl⟩
  obtain ⟨R, hR⟩ : ∃ R, R = W.heap.size + 1 := ⟨_, rfl⟩
  obtain ⟨n1, hn1⟩ : ∃ n1, n1 = n + 1 := ⟨_, rfl⟩
  have hwn : IntKind.i64.wrap ((n : Int) + 1) = (n1 : Int) := by rw [IntKind.wrap_i64]; omega
  have hwm : IntKind.i64.wrap ((n1 : Int) - 1) = (n1 : Int) - 1 := by rw [IntKind.wrap_i64]; omega
  rw [← hw1] at HQ HR HKS
  rw [← hR] at HQ
  have HQ1 : Hid (QB (fun k => k = s ∨ k = m ∨ k = G ∨ k = D) W P R #[.int .u8 5, .int .u64 (k : Int), .int .u64 (x : Int), .int .u64 od, .int .u64 (hk9 : Int), .bool r5, .int .i64 r6, .int .i64 r7, .slice kp kn kc, .int .u64 (lo : Int), .int .u64 (hi : Int)] #[.int .i64 0, .bool false, .int .u64 0, .bool false, .int .u64 0, .slice none 0 0, .int .u64 0] w1) := keepH (by rw [hP]; exact HQ)
  have HR1 := keepH HR
  have HKS1 := keepH HKS
  have HN1 := keepH hn1
  have HW1 := keepH hw1
  have HP := keepH hP
  have HRR := keepH hR
  have HLB := keepH lb
  have HB := keepH (And.intro hN (And.intro hst (And.intro htk (And.intro hgl (And.intro hb (And.intro hA (And.intro hk (And.intro hx (And.intro hkl (And.intro hkn hkb))))))))))
  rw [← hn1]
  clear HQ HR HKS hw1 hP hR lb R5 hks hN hst htk hgl hb hA hk hx hkl hkn hkb hn1 hn9
  go_enter Try.func13, Try.ntmps13
  go_upto_region 1 with fail
  rw [show (W.alloc (.cells #[.int .u8 5, .int .u64 (k : Int), .int .u64 (x : Int), .int .u64 od, .int .u64 (hk9 : Int), .bool r5, .int .i64 r6, .int .i64 r7, .slice kp kn kc, .int .u64 (lo : Int), .int .u64 (hi : Int)] 34)).alloc (.cells #[.int .i64 0, .bool false, .int .u64 0, .bool false, .int .u64 0, .slice none 0 0, .int .u64 0] 38) = w1 from HW1.out.symm, ← HRR.out, ← HP.out]
  clear HW1 HP HRR
  have s8 : w1.cell? ⟨s, 8, none⟩ = some (.int .i64 (n : Int)) := cell_of HR1.out.at_ 8
  have f8 : w1.frozen? ⟨s, 8, none⟩ = false := free_of HR1.out.at_ 8
  go_upto_region 4 with fail
  refine gen_world (P := fun w => Code.wp _ _ _ _ w) ?_
  intro w2 hw2
  have HR2 : Hid (R25 A w2 s m G D c0 N st mu tk n1 g l H) := keepH (by rw [hw2, HN1.out]; exact HR1.out.num)
  have HC2 : Hid (Chg (fun k => k = s ∨ k = m ∨ k = G ∨ k = D) w1 w2) := keepH (by rw [hw2]; exact (Chg.refl (fun k => k = s ∨ k = m ∨ k = G ∨ k = D) _).setCell (fun _ => .inl rfl) _)
  have HQ2 := keepH (HQ1.out.on HC2.out (fun k x => ⟨x, by have := HLB.out; omega⟩))
  have HK2 := keepH (HKS1.out.chgN HC2.out (fun bk off e e2 x => by have := HB.out.2.2.2.2.2.2.2.2.2.2 bk off e e2; omega))
  clear hw2 s8 f8 HC2 HQ1 HR1 HKS1
  have p0 : w2.cell? ⟨P, 0, none⟩ = some (.int .u8 5) := cell_of HQ2.out.ox 0
  have HSN : Hid (∀ w, Chg (fun _ => False) w2 w → Calls Try.prog 42 #[.pointer (some ⟨s, 0, none⟩), .agg #[.int .u8 5, .int .u64 (k : Int), .int .u64 (x : Int), .int .u64 od, .int .u64 (hk9 : Int), .bool r5, .int .i64 r6, .int .i64 r7, .slice kp kn kc, .int .u64 (lo : Int), .int .u64 (hi : Int)]] w fun e W' => (∃ x0 x1 x2 x3 x4 x5 x6, e = .returned (.agg #[x0, x1, x2, x3, x4, x5, x6]) ∧ (#[x0, x1, x2, x3, x4, x5, x6] : Array Value).all (·.oneCell') = true) ∧ Left25 A w s m G D c0 N st mu n1 tk g l H W') := keepH (fun w hc => r25_snap (HR2.out.quiet hc) HB.out.1 HB.out.2.1 HB.out.2.2.1 HB.out.2.2.2.1 HB.out.2.2.2.2.1 (fun b hb => by have := HB.out.2.2.2.2.2.1 b hb; have := HQ2.out.ch.size; have := hc.size; omega) HB.out.2.2.2.2.2.2.1 HB.out.2.2.2.2.2.2.2.1 (HK2.out.chg hc (fun _ _ _ x => x)) HB.out.2.2.2.2.2.2.2.2.1 HB.out.2.2.2.2.2.2.2.2.2.1 HB.out.2.2.2.2.2.2.2.2.2.2)
  go_upto_region 5 with fail
  have HS2 : Hid ((fun w => w.cell? ⟨s, 8, none⟩ = some (.int .i64 (n1 : Int)) ∧ w.heap[P]? = some (.cells #[.int .u8 5, .int .u64 (k : Int), .int .u64 (x : Int), .int .u64 od, .int .u64 (hk9 : Int), .bool r5, .int .i64 r6, .int .i64 r7, .slice kp kn kc, .int .u64 (lo : Int), .int .u64 (hi : Int)] 34 (0, 0))) w2.drew) := keepH ⟨cell_of HR2.out.at_ 8, HQ2.out.ox⟩
  clear p0
  refine wp_region_held_drew (S := fun w => w.cell? ⟨s, 8, none⟩ = some (.int .i64 (n1 : Int)) ∧ w.heap[P]? = some (.cells #[.int .u8 5, .int .u64 (k : Int), .int .u64 (x : Int), .int .u64 od, .int .u64 (hk9 : Int), .bool r5, .int .i64 r6, .int .i64 r7, .slice kp kn kc, .int .u64 (lo : Int), .int .u64 (hi : Int)] 34 (0, 0))) (by kernel_rfl) (HS2.out) ?_
  intro hHeld
  refine wpAnyH_take (i := 0) (v := ?_) rfl (by kernel_rfl) (by kernel_rfl) (by kernel_rfl) (fun _ _ _ h => h) (Or.inl ⟨by rfl, ?_⟩) hHeld ?_
  rotate_left
  · intro w hSw
    (try dsimp only at hSw)
    go_simp
    try with_reducible rfl
  (try simp only [Act.put]); (try simp only [List.setIfInBounds_toArray]); (try simp only [List.getElem_toArray]); (repeat (first | simp only [List.getElem_cons_succ] | simp only [List.getElem_cons_zero])); (repeat (first | simp only [List.set_cons_succ] | simp only [List.set_cons_zero]))
  refine wpAnyH_take (i := 1) (v := ?_) rfl (by kernel_rfl) (by kernel_rfl) (by kernel_rfl) (fun _ _ _ h => h) (Or.inl ⟨by rfl, ?_⟩) hHeld ?_
  rotate_left
  · intro w hSw
    (try dsimp only at hSw)
    have o0 := cell_of hSw.2 0
    have o1 := cell_of hSw.2 1
    have o2 := cell_of hSw.2 2
    have o3 := cell_of hSw.2 3
    have o4 := cell_of hSw.2 4
    have o5 := cell_of hSw.2 5
    have o6 := cell_of hSw.2 6
    have o7 := cell_of hSw.2 7
    have o8 := cell_of hSw.2 8
    have o9 := cell_of hSw.2 9
    have o10 := cell_of hSw.2 10
    go_simp
    try with_reducible rfl
  (try simp only [Act.put]); (try simp only [List.setIfInBounds_toArray]); (try simp only [List.getElem_toArray]); (repeat (first | simp only [List.getElem_cons_succ] | simp only [List.getElem_cons_zero])); (repeat (first | simp only [List.set_cons_succ] | simp only [List.set_cons_zero]))
  refine wpAnyH_take (i := 3) (v := ?_) rfl (by kernel_rfl) (by kernel_rfl) (by kernel_rfl) (fun _ _ _ h => h) (Or.inl ⟨by rfl, ?_⟩) hHeld ?_
  rotate_left
  · intro w hSw
    (try dsimp only at hSw)
    go_simp
    try with_reducible rfl
  (try simp only [Act.put]); (try simp only [List.setIfInBounds_toArray]); (try simp only [List.getElem_toArray]); (repeat (first | simp only [List.getElem_cons_succ] | simp only [List.getElem_cons_zero])); (repeat (first | simp only [List.set_cons_succ] | simp only [List.set_cons_zero]))
  refine wpAnyH_take (i := 4) (v := ?_) rfl (by kernel_rfl) (by kernel_rfl) (by kernel_rfl) (fun _ _ _ h => h) (Or.inl ⟨by rfl, ?_⟩) hHeld ?_
  rotate_left
  · intro w hSw
    (try dsimp only at hSw)
    go_simp
    try with_reducible rfl
  (try simp only [Act.put]); (try simp only [List.setIfInBounds_toArray]); (try simp only [List.getElem_toArray]); (repeat (first | simp only [List.getElem_cons_succ] | simp only [List.getElem_cons_zero])); (repeat (first | simp only [List.set_cons_succ] | simp only [List.set_cons_zero]))
  refine wpAnyH_take (i := 5) (v := ?_) rfl (by kernel_rfl) (by kernel_rfl) (by kernel_rfl) (fun _ _ _ h => h) (Or.inl ⟨by rfl, ?_⟩) hHeld ?_
  rotate_left
  · intro w hSw
    (try dsimp only at hSw)
    go_simp
    try with_reducible rfl
  (try simp only [Act.put]); (try simp only [List.setIfInBounds_toArray]); (try simp only [List.getElem_toArray]); (repeat (first | simp only [List.getElem_cons_succ] | simp only [List.getElem_cons_zero])); (repeat (first | simp only [List.set_cons_succ] | simp only [List.set_cons_zero]))
  refine wpAnyH_take (i := 6) (v := ?_) rfl (by kernel_rfl) (by kernel_rfl) (by kernel_rfl) (fun _ _ _ h => h) (Or.inl ⟨by rfl, ?_⟩) hHeld ?_
  rotate_left
  · intro w hSw
    (try dsimp only at hSw)
    have y8 := hSw.1
    go_simp
    try with_reducible rfl
  (try simp only [Act.put]); (try simp only [List.setIfInBounds_toArray]); (try simp only [List.getElem_toArray]); (repeat (first | simp only [List.getElem_cons_succ] | simp only [List.getElem_cons_zero])); (repeat (first | simp only [List.set_cons_succ] | simp only [List.set_cons_zero]))
  refine wpAnyH_take (i := 7) (v := ?_) rfl (by kernel_rfl) (by kernel_rfl) (by kernel_rfl) (fun _ _ _ h => h) (Or.inl ⟨by rfl, ?_⟩) hHeld ?_
  rotate_left
  · intro w hSw
    (try dsimp only at hSw)
    go_simp
    try with_reducible rfl
  (try simp only [Act.put]); (try simp only [List.setIfInBounds_toArray]); (try simp only [List.getElem_toArray]); (repeat (first | simp only [List.getElem_cons_succ] | simp only [List.getElem_cons_zero])); (repeat (first | simp only [List.set_cons_succ] | simp only [List.set_cons_zero]))
  refine wpAnyH_ready (rs := [2]) (by kernel_rfl) (by simp) ?_
  refine AllReadyH.cons rfl (fun KK hKK => ?_) AllReadyH.nil
  go_simp
  refine (HSN.out _ (chg_dn (Chg.refl _ _) 1)).mono ?_
  rintro e w5 ⟨⟨x0, x1, x2, x3, x4, x5, x6, rfl, ho⟩, ⟨tk', l', H', hR5, ht5, hl5, hz5⟩, hc5⟩
  have HR5 := keepH hR5
  have HX5 : Hid ((#[x0, x1, x2, x3, x4, x5, x6] : Array Value).all (·.oneCell') = true ∧ tk' ≤ max tk (st - 1) ∧ l'.length ≤ l.length + 1 ∧ ∀ z ∈ H', z ∈ H ∨ z.2.2 = l) := ⟨ho, ht5, hl5, hz5⟩
  have HQ5 := keepH ((HQ2.out.off (chg_dn (Chg.refl (fun _ => False) w2) 1)).on hc5 (fun k x => ⟨x, by have := HLB.out; omega⟩))
  have hcc : _ ∧ _ := And.intro (cell_of HR5.out.at_ 8) HQ5.out.ox
  clear hR5 ht5 hl5 hz5 hc5 ho
  refine hKK.out _ _ ?_ (fun hHeld => ?_)
  · exact hcc
  clear hKK KK
  (try simp only [Act.put]); (try simp only [List.setIfInBounds_toArray]); (try simp only [List.getElem_toArray]); (repeat (first | simp only [List.getElem_cons_succ] | simp only [List.getElem_cons_zero])); (repeat (first | simp only [List.set_cons_succ] | simp only [List.set_cons_zero]))
  refine wpAnyH_ready (rs := [8]) (by kernel_rfl) (by simp) ?_
  refine AllReadyH.cons rfl (fun KK hKK => ?_) AllReadyH.nil
  refine step_store_row6 rfl 38 (.tmp 4) (.tmp 23) rfl R 0 #[x0, x1, x2, x3, x4, x5, x6] rfl rfl HQ5.out.there (by kernel_rfl) HX5.out.1 ?_
  have HQ6 := keepH (HQ5.out.seven x0 x1 x2 x3 x4 x5 x6)
  have HR6 := keepH (R25.seven HQ5.out HR5.out [x0, x1, x2, x3, x4, x5, x6])
  have hcc : _ ∧ _ := And.intro (cell_of HR6.out.at_ 8) HQ6.out.ox
  refine hKK.out _ _ ?_ (fun hHeld => ?_)
  · exact hcc
  clear hKK KK
  (try simp only [Act.put]); (try simp only [List.setIfInBounds_toArray]); (try simp only [List.getElem_toArray]); (repeat (first | simp only [List.getElem_cons_succ] | simp only [List.getElem_cons_zero])); (repeat (first | simp only [List.set_cons_succ] | simp only [List.set_cons_zero]))
  refine wpAnyH_take (i := 9) (v := ?_) rfl (by kernel_rfl) (by kernel_rfl) (by kernel_rfl) (fun _ _ _ h => h) (Or.inl ⟨by rfl, ?_⟩) hHeld ?_
  rotate_left
  · intro w hSw
    (try dsimp only at hSw)
    go_simp
    try with_reducible rfl
  (try simp only [Act.put]); (try simp only [List.setIfInBounds_toArray]); (try simp only [List.getElem_toArray]); (repeat (first | simp only [List.getElem_cons_succ] | simp only [List.getElem_cons_zero])); (repeat (first | simp only [List.set_cons_succ] | simp only [List.set_cons_zero]))
  refine wpAnyH_done (by kernel_rfl) ?_ _
  go_simp
  clear hHeld HSN HS2
  have e0 := cell_of HQ6.out.ax 0
  have e1 := cell_of HQ6.out.ax 1
  have e2 := cell_of HQ6.out.ax 2
  have e3 := cell_of HQ6.out.ax 3
  have e4 := cell_of HQ6.out.ax 4
  have e5 := cell_of HQ6.out.ax 5
  have e6 := cell_of HQ6.out.ax 6
  simp at e0 e1 e2 e3 e4 e5 e6
  go_wp2_with fail
  (try simp only [Exit.inBlock, Exit.then])
  refine bodyPost_ret (v := .tuple #[.agg #[x0, x1, x2, x3, x4, x5, x6], .int .i64 ((n1 : Int) - 1)]) (by simp [results, Try.results13, go_sem, e0, e1, e2, e3, e4, e5, e6]) rfl ?_
  exact ⟨⟨_, rfl⟩, ⟨_, _, _, HR6.out, HX5.out.2⟩, HQ6.out.ch⟩
set_option maxRecDepth 100000 in
set_option maxHeartbeats 8000000 in
theorem r25_dox {A : Nat → Prop} {W : World} {s m G D : Nat} {c0 : Int} {N st : Nat} {mu : Int} {tk n : Nat} {g : Nat → Option Nat} {l : List (Nat × Nat)} {H : HeldL} (R5 : R25 A W s m G D c0 N st mu tk n g l H) (hN : N ≤ 256) (hst : 1 ≤ st ∧ st ≤ 4000000) (htk : tk ≤ st) (hgl : l.length ≤ 4398046510000) (hb : ∀ z ∈ H, z.2.2.length ≤ 4398046510000) (hA : ∀ b, A b → b < W.heap.size)
    {k x hk9 : Nat} (hk : k < 18446744073709551616) (hx : x < 18446744073709551616) {od r6 r7 : Int} {r5 : Bool} {kp : Option Addr} {kn kc lo hi : Nat} {ks : List Nat} (hks : KeysAt W kp ks) (hkl : mu ≤ 4398046510000) (hkn : kn = ks.length) (hkb : ∀ bk off, kp = some ⟨bk, off, none⟩ → ks ≠ [] → bk ≠ s ∧ bk ≠ m ∧ bk ≠ G ∧ bk ≠ D) (hn9 : n ≤ 4000000000000000000) {kd : Int} (n5 : ¬ kd = 5) (n6 : ¬ kd = 6) :
    Calls Try.prog 13 #[.pointer (some ⟨s, 0, none⟩), .agg #[.int .u8 kd, .int .u64 (k : Int), .int .u64 (x : Int), .int .u64 od, .int .u64 (hk9 : Int), .bool r5, .int .i64 r6, .int .i64 r7, .slice kp kn kc, .int .u64 (lo : Int), .int .u64 (hi : Int)]] W fun e W' => (∃ v, e = .returned v) ∧ Left25 A W s m G D c0 N st mu (n + 1) tk (stepG kd g k x od) l H W' := by
  have m6 : decide (kd = 6) = false := by simp; exact n6
  have m5 : decide (kd = 5) = false := by simp; exact n5
  have lb := R5.mono
  have HQ := QB.two (fun k => k = s ∨ k = m ∨ k = G ∨ k = D) W #[.int .u8 kd, .int .u64 (k : Int), .int .u64 (x : Int), .int .u64 od, .int .u64 (hk9 : Int), .bool r5, .int .i64 r6, .int .i64 r7, .slice kp kn kc, .int .u64 (lo : Int), .int .u64 (hi : Int)] #[.int .i64 0, .bool false, .int .u64 0, .bool false, .int .u64 0, .slice none 0 0, .int .u64 0]
  have HR := R5.quiet (((Chg.refl _ W).alloc (.cells #[.int .u8 kd, .int .u64 (k : Int), .int .u64 (x : Int), .int .u64 od, .int .u64 (hk9 : Int), .bool r5, .int .i64 r6, .int .i64 r7, .slice kp kn kc, .int .u64 (lo : Int), .int .u64 (hi : Int)] 34)).alloc (.cells #[.int .i64 0, .bool false, .int .u64 0, .bool false, .int .u64 0, .slice none 0 0, .int .u64 0] 38))
  have HKS := hks.chg (((Chg.refl (fun _ => False) W).alloc (.cells #[.int .u8 kd, .int .u64 (k : Int), .int .u64 (x : Int), .int .u64 od, .int .u64 (hk9 : Int), .bool r5, .int .i64 r6, .int .i64 r7, .slice kp kn kc, .int .u64 (lo : Int), .int .u64 (hi : Int)] 34)).alloc (.cells #[.int .i64 0, .bool false, .int .u64 0, .bool false, .int .u64 0, .slice none 0 0, .int .u64 0] 38)) (fun _ _ _ x => x)
  obtain ⟨w1, hw1⟩ : ∃ w1, w1 = (W.alloc (.cells #[.int .u8 kd, .int .u64 (k : Int), .int .u64 (x : Int), .int .u64 od, .int .u64 (hk9 : Int), .bool r5, .int .i64 r6, .int .i64 r7, .slice kp kn kc, .int .u64 (lo : Int), .int .u64 (hi : Int)] 34)).alloc (.cells #[.int .i64 0, .bool false, .int .u64 0, .bool false, .int .u64 0, .slice none 0 0, .int .u64 0] 38) := ⟨_, rfl⟩
  obtain ⟨P, hP⟩ : ∃ P, P = W.heap.size := ⟨_, rfl⟩
  obtain ⟨R, hR⟩ : ∃ R, R = W.heap.size + 1 := ⟨_, rfl⟩
  obtain ⟨n1, hn1⟩ : ∃ n1, n1 = n + 1 := ⟨_, rfl⟩
  have hwn : IntKind.i64.wrap ((n : Int) + 1) = (n1 : Int) := by rw [IntKind.wrap_i64]; omega
  have hwm : IntKind.i64.wrap ((n1 : Int) - 1) = (n1 : Int) - 1 := by rw [IntKind.wrap_i64]; omega
  rw [← hw1] at HQ HR HKS
  rw [← hR] at HQ
  have HQ1 : Hid (QB (fun k => k = s ∨ k = m ∨ k = G ∨ k = D) W P R #[.int .u8 kd, .int .u64 (k : Int), .int .u64 (x : Int), .int .u64 od, .int .u64 (hk9 : Int), .bool r5, .int .i64 r6, .int .i64 r7, .slice kp kn kc, .int .u64 (lo : Int), .int .u64 (hi : Int)] #[.int .i64 0, .bool false, .int .u64 0, .bool false, .int .u64 0, .slice none 0 0, .int .u64 0] w1) := keepH (by rw [hP]; exact HQ)
  have HR1 := keepH HR
  have HKS1 := keepH HKS
  have HN1 := keepH hn1
  have HW1 := keepH hw1
  have HP := keepH hP
  have HRR := keepH hR
  have HLB := keepH lb
  have HB := keepH (And.intro hN (And.intro hst (And.intro htk (And.intro hgl (And.intro hb (And.intro hA (And.intro hk (And.intro hx (And.intro hkl (And.intro hkn hkb))))))))))
  rw [← hn1]
  clear HQ HR HKS hw1 hP hR lb R5 hks hN hst htk hgl hb hA hk hx hkl hkn hkb hn1 hn9
  go_enter Try.func13, Try.ntmps13
  go_upto_region 1 with fail
  rw [show (W.alloc (.cells #[.int .u8 kd, .int .u64 (k : Int), .int .u64 (x : Int), .int .u64 od, .int .u64 (hk9 : Int), .bool r5, .int .i64 r6, .int .i64 r7, .slice kp kn kc, .int .u64 (lo : Int), .int .u64 (hi : Int)] 34)).alloc (.cells #[.int .i64 0, .bool false, .int .u64 0, .bool false, .int .u64 0, .slice none 0 0, .int .u64 0] 38) = w1 from HW1.out.symm, ← HRR.out, ← HP.out]
  clear HW1 HP HRR
  have s8 : w1.cell? ⟨s, 8, none⟩ = some (.int .i64 (n : Int)) := cell_of HR1.out.at_ 8
  have f8 : w1.frozen? ⟨s, 8, none⟩ = false := free_of HR1.out.at_ 8
  go_upto_region 4 with fail
  refine gen_world (P := fun w => Code.wp _ _ _ _ w) ?_
  intro w2 hw2
  have HR2 : Hid (R25 A w2 s m G D c0 N st mu tk n1 g l H) := keepH (by rw [hw2, HN1.out]; exact HR1.out.num)
  have HC2 : Hid (Chg (fun k => k = s ∨ k = m ∨ k = G ∨ k = D) w1 w2) := keepH (by rw [hw2]; exact (Chg.refl (fun k => k = s ∨ k = m ∨ k = G ∨ k = D) _).setCell (fun _ => .inl rfl) _)
  have HQ2 := keepH (HQ1.out.on HC2.out (fun k x => ⟨x, by have := HLB.out; omega⟩))
  have HK2 := keepH (HKS1.out.chgN HC2.out (fun bk off e e2 x => by have := HB.out.2.2.2.2.2.2.2.2.2.2 bk off e e2; omega))
  clear hw2 s8 f8 HC2 HQ1 HR1 HKS1
  have p0 : w2.cell? ⟨P, 0, none⟩ = some (.int .u8 kd) := cell_of HQ2.out.ox 0
  have HDO : Hid (∀ w, Chg (fun _ => False) w2 w → Calls Try.prog 28 #[.pointer (some ⟨m, 0, none⟩), .agg #[.int .u8 kd, .int .u64 (k : Int), .int .u64 (x : Int), .int .u64 od, .int .u64 (hk9 : Int), .bool r5, .int .i64 r6, .int .i64 r7, .slice kp kn kc, .int .u64 (lo : Int), .int .u64 (hi : Int)], .int .u64 0] w (DoneAny A w m mu kd hk9 0 g (stepG kd g k x od) l H)) := keepH (fun w hc => do_all6 (hd := 0) (kd := kd) (HR2.out.mod.quiet hc) HB.out.2.2.2.1 (by have := HR2.out.cnt; have := HB.out.2.1; have := HB.out.2.2.1; omega) HB.out.2.2.2.2.1 (fun b hb => by have := HB.out.2.2.2.2.2.1 b hb; have := HQ2.out.ch.size; have := hc.size; omega) HB.out.2.2.2.2.2.2.1 HB.out.2.2.2.2.2.2.2.1 (by omega) (HK2.out.chg hc (fun _ _ _ x => x)) HB.out.2.2.2.2.2.2.2.2.1 HB.out.2.2.2.2.2.2.2.2.2.1)
  go_upto_region 6 with fail
  have HS2 : Hid ((fun w => w.heap[s]? = some (.cells #[.int .i64 c0, .int .i64 (N : Int), .int .u64 (st : Int), .int .i64 mu, .pointer (some ⟨m, 0, none⟩), .slice (some ⟨G, 0, none⟩) N N, .slice (some ⟨D, 0, none⟩) N N, .int .u64 (tk : Int), .int .i64 (n1 : Int)] 95 (0, 0)) ∧ w.heap[P]? = some (.cells #[.int .u8 kd, .int .u64 (k : Int), .int .u64 (x : Int), .int .u64 od, .int .u64 (hk9 : Int), .bool r5, .int .i64 r6, .int .i64 r7, .slice kp kn kc, .int .u64 (lo : Int), .int .u64 (hi : Int)] 34 (0, 0))) w2.drew) := keepH ⟨HR2.out.at_, HQ2.out.ox⟩
  clear p0
  refine wp_region_held_drew (S := fun w => w.heap[s]? = some (.cells #[.int .i64 c0, .int .i64 (N : Int), .int .u64 (st : Int), .int .i64 mu, .pointer (some ⟨m, 0, none⟩), .slice (some ⟨G, 0, none⟩) N N, .slice (some ⟨D, 0, none⟩) N N, .int .u64 (tk : Int), .int .i64 (n1 : Int)] 95 (0, 0)) ∧ w.heap[P]? = some (.cells #[.int .u8 kd, .int .u64 (k : Int), .int .u64 (x : Int), .int .u64 od, .int .u64 (hk9 : Int), .bool r5, .int .i64 r6, .int .i64 r7, .slice kp kn kc, .int .u64 (lo : Int), .int .u64 (hi : Int)] 34 (0, 0))) (by kernel_rfl) (HS2.out) ?_
  intro hHeld
  refine wpAnyH_take (i := 0) (v := ?_) rfl (by kernel_rfl) (by kernel_rfl) (by kernel_rfl) (fun _ _ _ h => h) (Or.inl ⟨by rfl, ?_⟩) hHeld ?_
  rotate_left
  · intro w hSw
    (try dsimp only at hSw)
    go_simp
    try with_reducible rfl
  (try simp only [Act.put]); (try simp only [List.setIfInBounds_toArray]); (try simp only [List.getElem_toArray]); (repeat (first | simp only [List.getElem_cons_succ] | simp only [List.getElem_cons_zero])); (repeat (first | simp only [List.set_cons_succ] | simp only [List.set_cons_zero]))
  refine wpAnyH_take (i := 1) (v := ?_) rfl (by kernel_rfl) (by kernel_rfl) (by kernel_rfl) (fun _ _ _ h => h) (Or.inl ⟨by rfl, ?_⟩) hHeld ?_
  rotate_left
  · intro w hSw
    (try dsimp only at hSw)
    go_simp
    try with_reducible rfl
  (try simp only [Act.put]); (try simp only [List.setIfInBounds_toArray]); (try simp only [List.getElem_toArray]); (repeat (first | simp only [List.getElem_cons_succ] | simp only [List.getElem_cons_zero])); (repeat (first | simp only [List.set_cons_succ] | simp only [List.set_cons_zero]))
  refine wpAnyH_take (i := 2) (v := ?_) rfl (by kernel_rfl) (by kernel_rfl) (by kernel_rfl) (fun _ _ _ h => h) (Or.inl ⟨by rfl, ?_⟩) hHeld ?_
  rotate_left
  · intro w hSw
    (try dsimp only at hSw)
    go_simp
    try with_reducible rfl
  (try simp only [Act.put]); (try simp only [List.setIfInBounds_toArray]); (try simp only [List.getElem_toArray]); (repeat (first | simp only [List.getElem_cons_succ] | simp only [List.getElem_cons_zero])); (repeat (first | simp only [List.set_cons_succ] | simp only [List.set_cons_zero]))
  refine wpAnyH_take (i := 3) (v := ?_) rfl (by kernel_rfl) (by kernel_rfl) (by kernel_rfl) (fun _ _ _ h => h) (Or.inl ⟨by rfl, ?_⟩) hHeld ?_
  rotate_left
  · intro w hSw
    (try dsimp only at hSw)
    have y4 := cell_of hSw.1 4
    go_simp
    try with_reducible rfl
  (try simp only [Act.put]); (try simp only [List.setIfInBounds_toArray]); (try simp only [List.getElem_toArray]); (repeat (first | simp only [List.getElem_cons_succ] | simp only [List.getElem_cons_zero])); (repeat (first | simp only [List.set_cons_succ] | simp only [List.set_cons_zero]))
  refine wpAnyH_take (i := 4) (v := ?_) rfl (by kernel_rfl) (by kernel_rfl) (by kernel_rfl) (fun _ _ _ h => h) (Or.inl ⟨by rfl, ?_⟩) hHeld ?_
  rotate_left
  · intro w hSw
    (try dsimp only at hSw)
    have o0 := cell_of hSw.2 0
    have o1 := cell_of hSw.2 1
    have o2 := cell_of hSw.2 2
    have o3 := cell_of hSw.2 3
    have o4 := cell_of hSw.2 4
    have o5 := cell_of hSw.2 5
    have o6 := cell_of hSw.2 6
    have o7 := cell_of hSw.2 7
    have o8 := cell_of hSw.2 8
    have o9 := cell_of hSw.2 9
    have o10 := cell_of hSw.2 10
    go_simp
    try with_reducible rfl
  (try simp only [Act.put]); (try simp only [List.setIfInBounds_toArray]); (try simp only [List.getElem_toArray]); (repeat (first | simp only [List.getElem_cons_succ] | simp only [List.getElem_cons_zero])); (repeat (first | simp only [List.set_cons_succ] | simp only [List.set_cons_zero]))
  refine wpAnyH_ready (rs := [5, 6]) (by kernel_rfl) (by simp) ?_
  refine AllReadyH.cons rfl (fun KK hKK => ?_) (AllReadyH.cons rfl (fun KK hKK => ?_) AllReadyH.nil)
  · skip
    go_simp
    refine (HDO.out _ (chg_dn (Chg.refl _ _) 1)).mono ?_
    rintro e w5 ⟨⟨E, x1, x2, x3, x4, x5, x6, rfl, ho, hr6⟩, ⟨l', H', hm, hl1, hl2, hz⟩, hc5⟩
    have HZ5 : Hid (∀ z ∈ H', z ∈ H) := fun z hz9 => by rcases hz z hz9 with q | ⟨-, -, q⟩; exact q; exact absurd rfl q
    have HR5 := keepH ((HR2.out.quiet (chg_dn (Chg.refl _ _) 1)).call hc5 hm (fun z hz9 => HR2.out.slot z (HZ5.out z hz9)) (Nat.le_trans hl2 (by simp [up5, n5]; exact HR2.out.cnt)))
    have HX5 : Hid ((#[.int .i64 E, x1, x2, x3, x4, x5, x6] : Array Value).all (·.oneCell') = true ∧ l'.length ≤ l.length + 1 ∧ (∀ z ∈ H', z ∈ H ∨ z.2.2 = l) ∧ ((kd : Int) = 6 → E = 0 → ∃ z ∈ H, z.1 = hk9)) := ⟨ho, hl1, fun z hz9 => .inl (HZ5.out z hz9), hr6⟩
    have HQ5 := keepH ((HQ2.out.off (chg_dn (Chg.refl (fun _ => False) w2) 1)).on hc5 (fun k x => ⟨.inr (.inl x), by have := HLB.out; omega⟩))
    have hcc := And.intro HR5.out.at_ HQ5.out.ox
    clear hm hl1 hl2 hz hc5 ho hr6
    refine hKK.out _ _ ?_ (fun hHeld => ?_)
    · exact hcc
    clear hKK KK
    (try simp only [Act.put]); (try simp only [List.setIfInBounds_toArray]); (try simp only [List.getElem_toArray]); (repeat (first | simp only [List.getElem_cons_succ] | simp only [List.getElem_cons_zero])); (repeat (first | simp only [List.set_cons_succ] | simp only [List.set_cons_zero]))
    obtain ⟨T, hT⟩ : ∃ T, T = w5.heap.size := ⟨_, rfl⟩
    obtain ⟨w6, hw6⟩ : ∃ w6, w6 = w5.alloc (.cells #[.int .i64 0, .bool false, .int .u64 0, .bool false, .int .u64 0, .slice none 0 0, .int .u64 0] 38) := ⟨_, rfl⟩
    have HT6 : Hid (w6.heap[T]? = some (.cells #[.int .i64 0, .bool false, .int .u64 0, .bool false, .int .u64 0, .slice none 0 0, .int .u64 0] 38 (0, 0))) := keepH (by rw [hw6, hT]; exact heap_alloc_new _ _)
    have HR6 := keepH (show R25 A w6 _ _ _ _ _ _ _ _ _ _ _ _ _ from by rw [hw6]; exact HR5.out.quiet ((Chg.refl _ _).alloc _))
    have HQ6 := keepH (show QB _ _ _ _ _ _ w6 from by rw [hw6]; exact HQ5.out.off ((Chg.refl _ _).alloc _))
    have HTT : Hid (W.heap.size ≤ T ∧ ¬ T = R ∧ ¬ T = P) := keepH (by have := HQ5.out.ch.size; have := lt_of HQ5.out.ax; have := lt_of HQ5.out.ox; omega)
    have hcc := And.intro HR6.out.at_ HQ6.out.ox
    refine wpAnyH_ready (rs := [6]) (by kernel_rfl) (by simp) ?_
    refine AllReadyH.cons rfl (fun KK hKK => ?_) AllReadyH.nil
    go_simp
    rw [← hw6, ← hT]
    clear hw6 hT
    refine hKK.out _ _ ?_ (fun hHeld => ?_)
    · exact hcc
    clear hKK KK
    (try simp only [Act.put]); (try simp only [List.setIfInBounds_toArray]); (try simp only [List.getElem_toArray]); (repeat (first | simp only [List.getElem_cons_succ] | simp only [List.getElem_cons_zero])); (repeat (first | simp only [List.set_cons_succ] | simp only [List.set_cons_zero]))
    have HR7 : Hid (R25 A (w6.setCells T 0 [.int .i64 E, x1, x2, x3, x4, x5, x6]) s m G D c0 N st mu tk n1 (stepG kd g k x od) l' H') := keepH (HR6.out.box HT6.out [.int .i64 E, x1, x2, x3, x4, x5, x6])
    have HQ7 := keepH (HQ6.out.past (chg_seven (w := w6) (R := T) [.int .i64 E, x1, x2, x3, x4, x5, x6] 0) (fun k e => by subst e; exact ⟨HTT.out.2.2, HTT.out.2.1, HTT.out.1⟩))
    have HT7 : Hid ((w6.setCells T 0 [.int .i64 E, x1, x2, x3, x4, x5, x6]).heap[T]? = some (.cells #[.int .i64 E, x1, x2, x3, x4, x5, x6] 38 (0, 0))) := keepH (setCells_of 38 T [.int .i64 E, x1, x2, x3, x4, x5, x6] [] (#[.int .i64 0, .bool false, .int .u64 0, .bool false, .int .u64 0, .slice none 0 0, .int .u64 0] : Array Value).toList [] w6 HT6.out rfl)
    have hcc := And.intro HR7.out.at_ HQ7.out.ox
    refine wpAnyH_ready (rs := [7]) (by kernel_rfl) (by simp) ?_
    refine AllReadyH.cons rfl (fun KK hKK => ?_) AllReadyH.nil
    refine step_store_row6 rfl 38 (.tmp 6) (.tmp 34) rfl T 0 #[.int .i64 E, x1, x2, x3, x4, x5, x6] rfl rfl (there7 HT6.out) (by kernel_rfl) HX5.out.1 ?_
    refine hKK.out _ _ ?_ (fun hHeld => ?_)
    · exact hcc
    clear hKK KK
    (try simp only [Act.put]); (try simp only [List.setIfInBounds_toArray]); (try simp only [List.getElem_toArray]); (repeat (first | simp only [List.getElem_cons_succ] | simp only [List.getElem_cons_zero])); (repeat (first | simp only [List.set_cons_succ] | simp only [List.set_cons_zero]))
    refine wpAnyH_done (by kernel_rfl) ?_ _
    go_simp
    clear hHeld hcc HDO HS2
    generalize hw7 : World.setCells w6 T 0 _ = w7
    have HR8 : Hid (R25 A w7 s m G D c0 N st mu tk n1 (stepG kd g k x od) l' H') := keepH (by rw [← hw7]; exact HR7.out)
    have HQ8 : Hid (QB (fun k => k = s ∨ k = m ∨ k = G ∨ k = D) W P R #[.int .u8 kd, .int .u64 (k : Int), .int .u64 (x : Int), .int .u64 od, .int .u64 (hk9 : Int), .bool r5, .int .i64 r6, .int .i64 r7, .slice kp kn kc, .int .u64 (lo : Int), .int .u64 (hi : Int)] #[.int .i64 0, .bool false, .int .u64 0, .bool false, .int .u64 0, .slice none 0 0, .int .u64 0] w7) := keepH (by rw [← hw7]; exact HQ7.out)
    have HT8 : Hid (w7.heap[T]? = some (.cells #[.int .i64 E, x1, x2, x3, x4, x5, x6] 38 (0, 0))) := keepH (by rw [← hw7]; exact HT7.out)
    clear hw7 HR7 HQ7 HT7 HR6 HQ6 HT6
    have p0 : w7.cell? ⟨P, 0, none⟩ = some (.int .u8 kd) := cell_of HQ8.out.ox 0
    go_upto_region 11 with fail
    have HS9 : Hid ((fun w => w.heap[T]? = some (.cells #[.int .i64 E, x1, x2, x3, x4, x5, x6] 38 (0, 0)) ∧ w.cell? ⟨s, 8, none⟩ = some (.int .i64 (n1 : Int))) w7.drew) := keepH ⟨HT8.out, cell_of HR8.out.at_ 8⟩
    have HNR : Hid (¬ T = R) := HTT.out.2.1
    have HQD : Hid (QB (fun k => k = s ∨ k = m ∨ k = G ∨ k = D) W P R #[.int .u8 kd, .int .u64 (k : Int), .int .u64 (x : Int), .int .u64 od, .int .u64 (hk9 : Int), .bool r5, .int .i64 r6, .int .i64 r7, .slice kp kn kc, .int .u64 (lo : Int), .int .u64 (hi : Int)] #[.int .i64 0, .bool false, .int .u64 0, .bool false, .int .u64 0, .slice none 0 0, .int .u64 0] w7.drew) := keepH (HQ8.out.off (chg_dn (Chg.refl (fun _ => False) w7) 1))
    have HRD : Hid (R25 A w7.drew s m G D c0 N st mu tk n1 (stepG kd g k x od) l' H') := keepH (HR8.out.quiet (chg_dn (Chg.refl (fun _ => False) w7) 1))
    refine wp_region_held_drew (S := fun w => w.heap[T]? = some (.cells #[.int .i64 E, x1, x2, x3, x4, x5, x6] 38 (0, 0)) ∧ w.cell? ⟨s, 8, none⟩ = some (.int .i64 (n1 : Int))) (by kernel_rfl) (HS9.out) ?_
    intro hHeld
    refine wpAnyH_take (i := 0) (v := ?_) rfl (by kernel_rfl) (by kernel_rfl) (by kernel_rfl) (fun _ _ _ h => h) (Or.inl ⟨by rfl, ?_⟩) hHeld ?_
    rotate_left
    · intro w hSw
      (try dsimp only at hSw)
      have t0 := cell_of hSw.1 0
      have t1 := cell_of hSw.1 1
      have t2 := cell_of hSw.1 2
      have t3 := cell_of hSw.1 3
      have t4 := cell_of hSw.1 4
      have t5 := cell_of hSw.1 5
      have t6 := cell_of hSw.1 6
      go_simp
      try with_reducible rfl
    (try simp only [Act.put]); (try simp only [List.setIfInBounds_toArray]); (try simp only [List.getElem_toArray]); (repeat (first | simp only [List.getElem_cons_succ] | simp only [List.getElem_cons_zero])); (repeat (first | simp only [List.set_cons_succ] | simp only [List.set_cons_zero]))
    refine wpAnyH_take (i := 1) (v := ?_) rfl (by kernel_rfl) (by kernel_rfl) (by kernel_rfl) (fun _ _ _ h => h) (Or.inl ⟨by rfl, ?_⟩) hHeld ?_
    rotate_left
    · intro w hSw
      (try dsimp only at hSw)
      go_simp
      try with_reducible rfl
    (try simp only [Act.put]); (try simp only [List.setIfInBounds_toArray]); (try simp only [List.getElem_toArray]); (repeat (first | simp only [List.getElem_cons_succ] | simp only [List.getElem_cons_zero])); (repeat (first | simp only [List.set_cons_succ] | simp only [List.set_cons_zero]))
    refine wpAnyH_take (i := 2) (v := ?_) rfl (by kernel_rfl) (by kernel_rfl) (by kernel_rfl) (fun _ _ _ h => h) (Or.inl ⟨by rfl, ?_⟩) hHeld ?_
    rotate_left
    · intro w hSw
      (try dsimp only at hSw)
      go_simp
      try with_reducible rfl
    (try simp only [Act.put]); (try simp only [List.setIfInBounds_toArray]); (try simp only [List.getElem_toArray]); (repeat (first | simp only [List.getElem_cons_succ] | simp only [List.getElem_cons_zero])); (repeat (first | simp only [List.set_cons_succ] | simp only [List.set_cons_zero]))
    refine wpAnyH_take (i := 3) (v := ?_) rfl (by kernel_rfl) (by kernel_rfl) (by kernel_rfl) (fun _ _ _ h => h) (Or.inl ⟨by rfl, ?_⟩) hHeld ?_
    rotate_left
    · intro w hSw
      (try dsimp only at hSw)
      go_simp
      try with_reducible rfl
    (try simp only [Act.put]); (try simp only [List.setIfInBounds_toArray]); (try simp only [List.getElem_toArray]); (repeat (first | simp only [List.getElem_cons_succ] | simp only [List.getElem_cons_zero])); (repeat (first | simp only [List.set_cons_succ] | simp only [List.set_cons_zero]))
    refine wpAnyH_take (i := 4) (v := ?_) rfl (by kernel_rfl) (by kernel_rfl) (by kernel_rfl) (fun _ _ _ h => h) (Or.inl ⟨by rfl, ?_⟩) hHeld ?_
    rotate_left
    · intro w hSw
      (try dsimp only at hSw)
      have y8 := hSw.2
      go_simp
      try with_reducible rfl
    (try simp only [Act.put]); (try simp only [List.setIfInBounds_toArray]); (try simp only [List.getElem_toArray]); (repeat (first | simp only [List.getElem_cons_succ] | simp only [List.getElem_cons_zero])); (repeat (first | simp only [List.set_cons_succ] | simp only [List.set_cons_zero]))
    refine wpAnyH_take (i := 5) (v := ?_) rfl (by kernel_rfl) (by kernel_rfl) (by kernel_rfl) (fun _ _ _ h => h) (Or.inl ⟨by rfl, ?_⟩) hHeld ?_
    rotate_left
    · intro w hSw
      (try dsimp only at hSw)
      go_simp
      try with_reducible rfl
    (try simp only [Act.put]); (try simp only [List.setIfInBounds_toArray]); (try simp only [List.getElem_toArray]); (repeat (first | simp only [List.getElem_cons_succ] | simp only [List.getElem_cons_zero])); (repeat (first | simp only [List.set_cons_succ] | simp only [List.set_cons_zero]))
    refine wpAnyH_ready (rs := [6]) (by kernel_rfl) (by simp) ?_
    refine AllReadyH.cons rfl (fun KK hKK => ?_) AllReadyH.nil
    refine step_store_row6 rfl 38 (.tmp 4) (.tmp 62) rfl R 0 #[.int .i64 E, x1, x2, x3, x4, x5, x6] rfl rfl HQD.out.there (by kernel_rfl) (HX5.out.1) ?_
    have HQE := keepH (HQD.out.seven (.int .i64 E) (x1) (x2) (x3) (x4) (x5) (x6))
    have HRE := keepH (R25.seven HQD.out HRD.out [.int .i64 E, x1, x2, x3, x4, x5, x6])
    have hcc := And.intro (((chg_seven (w := w7.drew) (R := R) [.int .i64 E, x1, x2, x3, x4, x5, x6] 0).block T (lt_of HT8.out) HNR.out).trans HT8.out) (cell_of HRE.out.at_ 8)
    refine hKK.out _ _ ?_ (fun hHeld => ?_)
    · exact hcc
    clear hKK KK
    (try simp only [Act.put]); (try simp only [List.setIfInBounds_toArray]); (try simp only [List.getElem_toArray]); (repeat (first | simp only [List.getElem_cons_succ] | simp only [List.getElem_cons_zero])); (repeat (first | simp only [List.set_cons_succ] | simp only [List.set_cons_zero]))
    refine wpAnyH_take (i := 7) (v := ?_) rfl (by kernel_rfl) (by kernel_rfl) (by kernel_rfl) (fun _ _ _ h => h) (Or.inl ⟨by rfl, ?_⟩) hHeld ?_
    rotate_left
    · intro w hSw
      (try dsimp only at hSw)
      go_simp
      try with_reducible rfl
    (try simp only [Act.put]); (try simp only [List.setIfInBounds_toArray]); (try simp only [List.getElem_toArray]); (repeat (first | simp only [List.getElem_cons_succ] | simp only [List.getElem_cons_zero])); (repeat (first | simp only [List.set_cons_succ] | simp only [List.set_cons_zero]))
    refine wpAnyH_done (by kernel_rfl) ?_ _
    go_simp
    clear hHeld HS9 hcc
    have e0 := cell_of HQE.out.ax 0
    have e1 := cell_of HQE.out.ax 1
    have e2 := cell_of HQE.out.ax 2
    have e3 := cell_of HQE.out.ax 3
    have e4 := cell_of HQE.out.ax 4
    have e5 := cell_of HQE.out.ax 5
    have e6 := cell_of HQE.out.ax 6
    simp at e0 e1 e2 e3 e4 e5 e6
    go_wp2_with fail
    (try simp only [Exit.inBlock, Exit.then])
    refine bodyPost_ret (v := .tuple #[.agg #[.int .i64 E, x1, x2, x3, x4, x5, x6], .int .i64 ((n1 : Int) - 1)]) (by simp [results, Try.results13, go_sem, e0, e1, e2, e3, e4, e5, e6]) rfl ?_
    exact ⟨⟨_, rfl⟩, ⟨tk, l', H', HRE.out, ⟨by omega, HX5.out.2.1, HX5.out.2.2.1⟩⟩, HQE.out.ch⟩
  · skip
    obtain ⟨T, hT⟩ : ∃ T, T = w2.heap.size := ⟨_, rfl⟩
    obtain ⟨wb, hwb⟩ : ∃ wb, wb = (w2.alloc (.cells #[.int .i64 0, .bool false, .int .u64 0, .bool false, .int .u64 0, .slice none 0 0, .int .u64 0] 38)).drew := ⟨_, rfl⟩
    have HCB : Hid (Chg (fun _ => False) w2 wb) := keepH (by rw [hwb]; exact chg_dn ((Chg.refl _ _).alloc _) 1)
    have HTB : Hid (wb.heap[T]? = some (.cells #[.int .i64 0, .bool false, .int .u64 0, .bool false, .int .u64 0, .slice none 0 0, .int .u64 0] 38 (0, 0))) := keepH (by rw [hwb, hT]; exact heap_alloc_new _ _)
    have HQB := keepH (HQ2.out.off HCB.out)
    have HTT : Hid (W.heap.size ≤ T ∧ ¬ T = R ∧ ¬ T = P) := keepH (by have := HQ2.out.ch.size; have := lt_of HQ2.out.ax; have := lt_of HQ2.out.ox; omega)
    have hcc := And.intro (HR2.out.quiet HCB.out).at_ HQB.out.ox
    go_simp
    rw [← hwb, ← hT]
    clear hwb hT
    refine hKK.out _ _ ?_ (fun hHeld => ?_)
    · exact hcc
    clear hKK KK hcc
    (try simp only [Act.put]); (try simp only [List.setIfInBounds_toArray]); (try simp only [List.getElem_toArray]); (repeat (first | simp only [List.getElem_cons_succ] | simp only [List.getElem_cons_zero])); (repeat (first | simp only [List.set_cons_succ] | simp only [List.set_cons_zero]))
    refine wpAnyH_ready (rs := [5]) (by kernel_rfl) (by simp) ?_
    refine AllReadyH.cons rfl (fun KK hKK => ?_) AllReadyH.nil
    go_simp
    refine (HDO.out _ (HCB.out)).mono ?_
    rintro e w5 ⟨⟨E, x1, x2, x3, x4, x5, x6, rfl, ho, hr6⟩, ⟨l', H', hm, hl1, hl2, hz⟩, hc5⟩
    have HZ5 : Hid (∀ z ∈ H', z ∈ H) := fun z hz9 => by rcases hz z hz9 with q | ⟨-, -, q⟩; exact q; exact absurd rfl q
    have HR5 := keepH ((HR2.out.quiet (HCB.out)).call hc5 hm (fun z hz9 => HR2.out.slot z (HZ5.out z hz9)) (Nat.le_trans hl2 (by simp [up5, n5]; exact HR2.out.cnt)))
    have HX5 : Hid ((#[.int .i64 E, x1, x2, x3, x4, x5, x6] : Array Value).all (·.oneCell') = true ∧ l'.length ≤ l.length + 1 ∧ (∀ z ∈ H', z ∈ H ∨ z.2.2 = l) ∧ ((kd : Int) = 6 → E = 0 → ∃ z ∈ H, z.1 = hk9)) := ⟨ho, hl1, fun z hz9 => .inl (HZ5.out z hz9), hr6⟩
    have HQ5 := keepH (HQB.out.on hc5 (fun k x => ⟨.inr (.inl x), by have := HLB.out; omega⟩))
    have HT6 : Hid (w5.heap[T]? = some (.cells #[.int .i64 0, .bool false, .int .u64 0, .bool false, .int .u64 0, .slice none 0 0, .int .u64 0] 38 (0, 0))) := keepH ((hc5.block T (lt_of HTB.out) (by have := HTT.out; have := HLB.out; omega)).trans HTB.out)
    have HR6 := HR5
    have HQ6 := HQ5
    clear HR5 HQ5 HTB HQB HCB
    obtain ⟨w6, hw6⟩ : ∃ w6, w6 = w5 := ⟨_, rfl⟩
    subst hw6
    have hcc := And.intro HR6.out.at_ HQ6.out.ox
    clear hm hl1 hl2 hz hc5 ho hr6
    refine hKK.out _ _ ?_ (fun hHeld => ?_)
    · exact hcc
    clear hKK KK
    (try simp only [Act.put]); (try simp only [List.setIfInBounds_toArray]); (try simp only [List.getElem_toArray]); (repeat (first | simp only [List.getElem_cons_succ] | simp only [List.getElem_cons_zero])); (repeat (first | simp only [List.set_cons_succ] | simp only [List.set_cons_zero]))
    have HR7 : Hid (R25 A (w6.setCells T 0 [.int .i64 E, x1, x2, x3, x4, x5, x6]) s m G D c0 N st mu tk n1 (stepG kd g k x od) l' H') := keepH (HR6.out.box HT6.out [.int .i64 E, x1, x2, x3, x4, x5, x6])
    have HQ7 := keepH (HQ6.out.past (chg_seven (w := w6) (R := T) [.int .i64 E, x1, x2, x3, x4, x5, x6] 0) (fun k e => by subst e; exact ⟨HTT.out.2.2, HTT.out.2.1, HTT.out.1⟩))
    have HT7 : Hid ((w6.setCells T 0 [.int .i64 E, x1, x2, x3, x4, x5, x6]).heap[T]? = some (.cells #[.int .i64 E, x1, x2, x3, x4, x5, x6] 38 (0, 0))) := keepH (setCells_of 38 T [.int .i64 E, x1, x2, x3, x4, x5, x6] [] (#[.int .i64 0, .bool false, .int .u64 0, .bool false, .int .u64 0, .slice none 0 0, .int .u64 0] : Array Value).toList [] w6 HT6.out rfl)
    have hcc := And.intro HR7.out.at_ HQ7.out.ox
    refine wpAnyH_ready (rs := [7]) (by kernel_rfl) (by simp) ?_
    refine AllReadyH.cons rfl (fun KK hKK => ?_) AllReadyH.nil
    refine step_store_row6 rfl 38 (.tmp 6) (.tmp 34) rfl T 0 #[.int .i64 E, x1, x2, x3, x4, x5, x6] rfl rfl (there7 HT6.out) (by kernel_rfl) HX5.out.1 ?_
    refine hKK.out _ _ ?_ (fun hHeld => ?_)
    · exact hcc
    clear hKK KK
    (try simp only [Act.put]); (try simp only [List.setIfInBounds_toArray]); (try simp only [List.getElem_toArray]); (repeat (first | simp only [List.getElem_cons_succ] | simp only [List.getElem_cons_zero])); (repeat (first | simp only [List.set_cons_succ] | simp only [List.set_cons_zero]))
    refine wpAnyH_done (by kernel_rfl) ?_ _
    go_simp
    clear hHeld hcc HDO HS2
    generalize hw7 : World.setCells w6 T 0 _ = w7
    have HR8 : Hid (R25 A w7 s m G D c0 N st mu tk n1 (stepG kd g k x od) l' H') := keepH (by rw [← hw7]; exact HR7.out)
    have HQ8 : Hid (QB (fun k => k = s ∨ k = m ∨ k = G ∨ k = D) W P R #[.int .u8 kd, .int .u64 (k : Int), .int .u64 (x : Int), .int .u64 od, .int .u64 (hk9 : Int), .bool r5, .int .i64 r6, .int .i64 r7, .slice kp kn kc, .int .u64 (lo : Int), .int .u64 (hi : Int)] #[.int .i64 0, .bool false, .int .u64 0, .bool false, .int .u64 0, .slice none 0 0, .int .u64 0] w7) := keepH (by rw [← hw7]; exact HQ7.out)
    have HT8 : Hid (w7.heap[T]? = some (.cells #[.int .i64 E, x1, x2, x3, x4, x5, x6] 38 (0, 0))) := keepH (by rw [← hw7]; exact HT7.out)
    clear hw7 HR7 HQ7 HT7 HR6 HQ6 HT6
    have p0 : w7.cell? ⟨P, 0, none⟩ = some (.int .u8 kd) := cell_of HQ8.out.ox 0
    go_upto_region 11 with fail
    have HS9 : Hid ((fun w => w.heap[T]? = some (.cells #[.int .i64 E, x1, x2, x3, x4, x5, x6] 38 (0, 0)) ∧ w.cell? ⟨s, 8, none⟩ = some (.int .i64 (n1 : Int))) w7.drew) := keepH ⟨HT8.out, cell_of HR8.out.at_ 8⟩
    have HNR : Hid (¬ T = R) := HTT.out.2.1
    have HQD : Hid (QB (fun k => k = s ∨ k = m ∨ k = G ∨ k = D) W P R #[.int .u8 kd, .int .u64 (k : Int), .int .u64 (x : Int), .int .u64 od, .int .u64 (hk9 : Int), .bool r5, .int .i64 r6, .int .i64 r7, .slice kp kn kc, .int .u64 (lo : Int), .int .u64 (hi : Int)] #[.int .i64 0, .bool false, .int .u64 0, .bool false, .int .u64 0, .slice none 0 0, .int .u64 0] w7.drew) := keepH (HQ8.out.off (chg_dn (Chg.refl (fun _ => False) w7) 1))
    have HRD : Hid (R25 A w7.drew s m G D c0 N st mu tk n1 (stepG kd g k x od) l' H') := keepH (HR8.out.quiet (chg_dn (Chg.refl (fun _ => False) w7) 1))
    refine wp_region_held_drew (S := fun w => w.heap[T]? = some (.cells #[.int .i64 E, x1, x2, x3, x4, x5, x6] 38 (0, 0)) ∧ w.cell? ⟨s, 8, none⟩ = some (.int .i64 (n1 : Int))) (by kernel_rfl) (HS9.out) ?_
    intro hHeld
    refine wpAnyH_take (i := 0) (v := ?_) rfl (by kernel_rfl) (by kernel_rfl) (by kernel_rfl) (fun _ _ _ h => h) (Or.inl ⟨by rfl, ?_⟩) hHeld ?_
    rotate_left
    · intro w hSw
      (try dsimp only at hSw)
      have t0 := cell_of hSw.1 0
      have t1 := cell_of hSw.1 1
      have t2 := cell_of hSw.1 2
      have t3 := cell_of hSw.1 3
      have t4 := cell_of hSw.1 4
      have t5 := cell_of hSw.1 5
      have t6 := cell_of hSw.1 6
      go_simp
      try with_reducible rfl
    (try simp only [Act.put]); (try simp only [List.setIfInBounds_toArray]); (try simp only [List.getElem_toArray]); (repeat (first | simp only [List.getElem_cons_succ] | simp only [List.getElem_cons_zero])); (repeat (first | simp only [List.set_cons_succ] | simp only [List.set_cons_zero]))
    refine wpAnyH_take (i := 1) (v := ?_) rfl (by kernel_rfl) (by kernel_rfl) (by kernel_rfl) (fun _ _ _ h => h) (Or.inl ⟨by rfl, ?_⟩) hHeld ?_
    rotate_left
    · intro w hSw
      (try dsimp only at hSw)
      go_simp
      try with_reducible rfl
    (try simp only [Act.put]); (try simp only [List.setIfInBounds_toArray]); (try simp only [List.getElem_toArray]); (repeat (first | simp only [List.getElem_cons_succ] | simp only [List.getElem_cons_zero])); (repeat (first | simp only [List.set_cons_succ] | simp only [List.set_cons_zero]))
    refine wpAnyH_take (i := 2) (v := ?_) rfl (by kernel_rfl) (by kernel_rfl) (by kernel_rfl) (fun _ _ _ h => h) (Or.inl ⟨by rfl, ?_⟩) hHeld ?_
    rotate_left
    · intro w hSw
      (try dsimp only at hSw)
      go_simp
      try with_reducible rfl
    (try simp only [Act.put]); (try simp only [List.setIfInBounds_toArray]); (try simp only [List.getElem_toArray]); (repeat (first | simp only [List.getElem_cons_succ] | simp only [List.getElem_cons_zero])); (repeat (first | simp only [List.set_cons_succ] | simp only [List.set_cons_zero]))
    refine wpAnyH_take (i := 3) (v := ?_) rfl (by kernel_rfl) (by kernel_rfl) (by kernel_rfl) (fun _ _ _ h => h) (Or.inl ⟨by rfl, ?_⟩) hHeld ?_
    rotate_left
    · intro w hSw
      (try dsimp only at hSw)
      go_simp
      try with_reducible rfl
    (try simp only [Act.put]); (try simp only [List.setIfInBounds_toArray]); (try simp only [List.getElem_toArray]); (repeat (first | simp only [List.getElem_cons_succ] | simp only [List.getElem_cons_zero])); (repeat (first | simp only [List.set_cons_succ] | simp only [List.set_cons_zero]))
    refine wpAnyH_take (i := 4) (v := ?_) rfl (by kernel_rfl) (by kernel_rfl) (by kernel_rfl) (fun _ _ _ h => h) (Or.inl ⟨by rfl, ?_⟩) hHeld ?_
    rotate_left
    · intro w hSw
      (try dsimp only at hSw)
      have y8 := hSw.2
      go_simp
      try with_reducible rfl
    (try simp only [Act.put]); (try simp only [List.setIfInBounds_toArray]); (try simp only [List.getElem_toArray]); (repeat (first | simp only [List.getElem_cons_succ] | simp only [List.getElem_cons_zero])); (repeat (first | simp only [List.set_cons_succ] | simp only [List.set_cons_zero]))
    refine wpAnyH_take (i := 5) (v := ?_) rfl (by kernel_rfl) (by kernel_rfl) (by kernel_rfl) (fun _ _ _ h => h) (Or.inl ⟨by rfl, ?_⟩) hHeld ?_
    rotate_left
    · intro w hSw
      (try dsimp only at hSw)
      go_simp
      try with_reducible rfl
    (try simp only [Act.put]); (try simp only [List.setIfInBounds_toArray]); (try simp only [List.getElem_toArray]); (repeat (first | simp only [List.getElem_cons_succ] | simp only [List.getElem_cons_zero])); (repeat (first | simp only [List.set_cons_succ] | simp only [List.set_cons_zero]))
    refine wpAnyH_ready (rs := [6]) (by kernel_rfl) (by simp) ?_
    refine AllReadyH.cons rfl (fun KK hKK => ?_) AllReadyH.nil
    refine step_store_row6 rfl 38 (.tmp 4) (.tmp 62) rfl R 0 #[.int .i64 E, x1, x2, x3, x4, x5, x6] rfl rfl HQD.out.there (by kernel_rfl) (HX5.out.1) ?_
    have HQE := keepH (HQD.out.seven (.int .i64 E) (x1) (x2) (x3) (x4) (x5) (x6))
    have HRE := keepH (R25.seven HQD.out HRD.out [.int .i64 E, x1, x2, x3, x4, x5, x6])
    have hcc := And.intro (((chg_seven (w := w7.drew) (R := R) [.int .i64 E, x1, x2, x3, x4, x5, x6] 0).block T (lt_of HT8.out) HNR.out).trans HT8.out) (cell_of HRE.out.at_ 8)
    refine hKK.out _ _ ?_ (fun hHeld => ?_)
    · exact hcc
    clear hKK KK
    (try simp only [Act.put]); (try simp only [List.setIfInBounds_toArray]); (try simp only [List.getElem_toArray]); (repeat (first | simp only [List.getElem_cons_succ] | simp only [List.getElem_cons_zero])); (repeat (first | simp only [List.set_cons_succ] | simp only [List.set_cons_zero]))
    refine wpAnyH_take (i := 7) (v := ?_) rfl (by kernel_rfl) (by kernel_rfl) (by kernel_rfl) (fun _ _ _ h => h) (Or.inl ⟨by rfl, ?_⟩) hHeld ?_
    rotate_left
    · intro w hSw
      (try dsimp only at hSw)
      go_simp
      try with_reducible rfl
    (try simp only [Act.put]); (try simp only [List.setIfInBounds_toArray]); (try simp only [List.getElem_toArray]); (repeat (first | simp only [List.getElem_cons_succ] | simp only [List.getElem_cons_zero])); (repeat (first | simp only [List.set_cons_succ] | simp only [List.set_cons_zero]))
    refine wpAnyH_done (by kernel_rfl) ?_ _
    go_simp
    clear hHeld HS9 hcc
    have e0 := cell_of HQE.out.ax 0
    have e1 := cell_of HQE.out.ax 1
    have e2 := cell_of HQE.out.ax 2
    have e3 := cell_of HQE.out.ax 3
    have e4 := cell_of HQE.out.ax 4
    have e5 := cell_of HQE.out.ax 5
    have e6 := cell_of HQE.out.ax 6
    simp at e0 e1 e2 e3 e4 e5 e6
    go_wp2_with fail
    (try simp only [Exit.inBlock, Exit.then])
    refine bodyPost_ret (v := .tuple #[.agg #[.int .i64 E, x1, x2, x3, x4, x5, x6], .int .i64 ((n1 : Int) - 1)]) (by simp [results, Try.results13, go_sem, e0, e1, e2, e3, e4, e5, e6]) rfl ?_
    exact ⟨⟨_, rfl⟩, ⟨tk, l', H', HRE.out, ⟨by omega, HX5.out.2.1, HX5.out.2.2.1⟩⟩, HQE.out.ch⟩
set_option maxRecDepth 100000 in
set_option maxHeartbeats 8000000 in
theorem r25_do6 {A : Nat → Prop} {W : World} {s m G D : Nat} {c0 : Int} {N st : Nat} {mu : Int} {tk n : Nat} {g : Nat → Option Nat} {l : List (Nat × Nat)} {H : HeldL} (R5 : R25 A W s m G D c0 N st mu tk n g l H) (hN : N ≤ 256) (hst : 1 ≤ st ∧ st ≤ 4000000) (htk : tk ≤ st) (hgl : l.length ≤ 4398046510000) (hb : ∀ z ∈ H, z.2.2.length ≤ 4398046510000) (hA : ∀ b, A b → b < W.heap.size)
    {k x hk9 : Nat} (hk : k < 18446744073709551616) (hx : x < 18446744073709551616) {od r6 r7 : Int} {r5 : Bool} {kp : Option Addr} {kn kc lo hi : Nat} {ks : List Nat} (hks : KeysAt W kp ks) (hkl : mu ≤ 4398046510000) (hkn : kn = ks.length) (hkb : ∀ bk off, kp = some ⟨bk, off, none⟩ → ks ≠ [] → bk ≠ s ∧ bk ≠ m ∧ bk ≠ G ∧ bk ≠ D) (hn9 : n ≤ 4000000000000000000)  :
    Calls Try.prog 13 #[.pointer (some ⟨s, 0, none⟩), .agg #[.int .u8 6, .int .u64 (k : Int), .int .u64 (x : Int), .int .u64 od, .int .u64 (hk9 : Int), .bool r5, .int .i64 r6, .int .i64 r7, .slice kp kn kc, .int .u64 (lo : Int), .int .u64 (hi : Int)]] W fun e W' => (∃ v, e = .returned v) ∧ Left25 A W s m G D c0 N st mu (n + 1) tk (stepG 6 g k x od) l H W' := by
  have lb := R5.mono
  have HQ := QB.two (fun k => k = s ∨ k = m ∨ k = G ∨ k = D) W #[.int .u8 6, .int .u64 (k : Int), .int .u64 (x : Int), .int .u64 od, .int .u64 (hk9 : Int), .bool r5, .int .i64 r6, .int .i64 r7, .slice kp kn kc, .int .u64 (lo : Int), .int .u64 (hi : Int)] #[.int .i64 0, .bool false, .int .u64 0, .bool false, .int .u64 0, .slice none 0 0, .int .u64 0]
  have HR := R5.quiet (((Chg.refl _ W).alloc (.cells #[.int .u8 6, .int .u64 (k : Int), .int .u64 (x : Int), .int .u64 od, .int .u64 (hk9 : Int), .bool r5, .int .i64 r6, .int .i64 r7, .slice kp kn kc, .int .u64 (lo : Int), .int .u64 (hi : Int)] 34)).alloc (.cells #[.int .i64 0, .bool false, .int .u64 0, .bool false, .int .u64 0, .slice none 0 0, .int .u64 0] 38))
  have HKS := hks.chg (((Chg.refl (fun _ => False) W).alloc (.cells #[.int .u8 6, .int .u64 (k : Int), .int .u64 (x : Int), .int .u64 od, .int .u64 (hk9 : Int), .bool r5, .int .i64 r6, .int .i64 r7, .slice kp kn kc, .int .u64 (lo : Int), .int .u64 (hi : Int)] 34)).alloc (.cells #[.int .i64 0, .bool false, .int .u64 0, .bool false, .int .u64 0, .slice none 0 0, .int .u64 0] 38)) (fun _ _ _ x => x)
  obtain ⟨w1, hw1⟩ : ∃ w1, w1 = (W.alloc (.cells #[.int .u8 6, .int .u64 (k : Int), .int .u64 (x : Int), .int .u64 od, .int .u64 (hk9 : Int), .bool r5, .int .i64 r6, .int .i64 r7, .slice kp kn kc, .int .u64 (lo : Int), .int .u64 (hi : Int)] 34)).alloc (.cells #[.int .i64 0, .bool false, .int .u64 0, .bool false, .int .u64 0, .slice none 0 0, .int .u64 0] 38) := ⟨_, rfl⟩
  obtain ⟨P, hP⟩ : ∃ P, P = W.heap.size := ⟨_, rfl⟩
  obtain ⟨R, hR⟩ : ∃ R, R = W.heap.size + 1 := ⟨_, rfl⟩
  obtain ⟨n1, hn1⟩ : ∃ n1, n1 = n + 1 := ⟨_, rfl⟩
  have hwn : IntKind.i64.wrap ((n : Int) + 1) = (n1 : Int) := by rw [IntKind.wrap_i64]; omega
  have hwm : IntKind.i64.wrap ((n1 : Int) - 1) = (n1 : Int) - 1 := by rw [IntKind.wrap_i64]; omega
  rw [← hw1] at HQ HR HKS
  rw [← hR] at HQ
  have HQ1 : Hid (QB (fun k => k = s ∨ k = m ∨ k = G ∨ k = D) W P R #[.int .u8 6, .int .u64 (k : Int), .int .u64 (x : Int), .int .u64 od, .int .u64 (hk9 : Int), .bool r5, .int .i64 r6, .int .i64 r7, .slice kp kn kc, .int .u64 (lo : Int), .int .u64 (hi : Int)] #[.int .i64 0, .bool false, .int .u64 0, .bool false, .int .u64 0, .slice none 0 0, .int .u64 0] w1) := keepH (by rw [hP]; exact HQ)
  have HR1 := keepH HR
  have HKS1 := keepH HKS
  have HN1 := keepH hn1
  have HW1 := keepH hw1
  have HP := keepH hP
  have HRR := keepH hR
  have HLB := keepH lb
  have HB := keepH (And.intro hN (And.intro hst (And.intro htk (And.intro hgl (And.intro hb (And.intro hA (And.intro hk (And.intro hx (And.intro hkl (And.intro hkn hkb))))))))))
  rw [← hn1]
  clear HQ HR HKS hw1 hP hR lb R5 hks hN hst htk hgl hb hA hk hx hkl hkn hkb hn1 hn9
  go_enter Try.func13, Try.ntmps13
  go_upto_region 1 with fail
  rw [show (W.alloc (.cells #[.int .u8 6, .int .u64 (k : Int), .int .u64 (x : Int), .int .u64 od, .int .u64 (hk9 : Int), .bool r5, .int .i64 r6, .int .i64 r7, .slice kp kn kc, .int .u64 (lo : Int), .int .u64 (hi : Int)] 34)).alloc (.cells #[.int .i64 0, .bool false, .int .u64 0, .bool false, .int .u64 0, .slice none 0 0, .int .u64 0] 38) = w1 from HW1.out.symm, ← HRR.out, ← HP.out]
  clear HW1 HP HRR
  have s8 : w1.cell? ⟨s, 8, none⟩ = some (.int .i64 (n : Int)) := cell_of HR1.out.at_ 8
  have f8 : w1.frozen? ⟨s, 8, none⟩ = false := free_of HR1.out.at_ 8
  go_upto_region 4 with fail
  refine gen_world (P := fun w => Code.wp _ _ _ _ w) ?_
  intro w2 hw2
  have HR2 : Hid (R25 A w2 s m G D c0 N st mu tk n1 g l H) := keepH (by rw [hw2, HN1.out]; exact HR1.out.num)
  have HC2 : Hid (Chg (fun k => k = s ∨ k = m ∨ k = G ∨ k = D) w1 w2) := keepH (by rw [hw2]; exact (Chg.refl (fun k => k = s ∨ k = m ∨ k = G ∨ k = D) _).setCell (fun _ => .inl rfl) _)
  have HQ2 := keepH (HQ1.out.on HC2.out (fun k x => ⟨x, by have := HLB.out; omega⟩))
  have HK2 := keepH (HKS1.out.chgN HC2.out (fun bk off e e2 x => by have := HB.out.2.2.2.2.2.2.2.2.2.2 bk off e e2; omega))
  clear hw2 s8 f8 HC2 HQ1 HR1 HKS1
  have p0 : w2.cell? ⟨P, 0, none⟩ = some (.int .u8 6) := cell_of HQ2.out.ox 0
  have HDO : Hid (∀ w, Chg (fun _ => False) w2 w → Calls Try.prog 28 #[.pointer (some ⟨m, 0, none⟩), .agg #[.int .u8 6, .int .u64 (k : Int), .int .u64 (x : Int), .int .u64 od, .int .u64 (hk9 : Int), .bool r5, .int .i64 r6, .int .i64 r7, .slice kp kn kc, .int .u64 (lo : Int), .int .u64 (hi : Int)], .int .u64 0] w (DoneAny A w m mu 6 hk9 0 g (stepG 6 g k x od) l H)) := keepH (fun w hc => do_all6 (hd := 0) (kd := 6) (HR2.out.mod.quiet hc) HB.out.2.2.2.1 (by have := HR2.out.cnt; have := HB.out.2.1; have := HB.out.2.2.1; omega) HB.out.2.2.2.2.1 (fun b hb => by have := HB.out.2.2.2.2.2.1 b hb; have := HQ2.out.ch.size; have := hc.size; omega) HB.out.2.2.2.2.2.2.1 HB.out.2.2.2.2.2.2.2.1 (by omega) (HK2.out.chg hc (fun _ _ _ x => x)) HB.out.2.2.2.2.2.2.2.2.1 HB.out.2.2.2.2.2.2.2.2.2.1)
  go_upto_region 6 with fail
  have HS2 : Hid ((fun w => w.heap[s]? = some (.cells #[.int .i64 c0, .int .i64 (N : Int), .int .u64 (st : Int), .int .i64 mu, .pointer (some ⟨m, 0, none⟩), .slice (some ⟨G, 0, none⟩) N N, .slice (some ⟨D, 0, none⟩) N N, .int .u64 (tk : Int), .int .i64 (n1 : Int)] 95 (0, 0)) ∧ w.heap[P]? = some (.cells #[.int .u8 6, .int .u64 (k : Int), .int .u64 (x : Int), .int .u64 od, .int .u64 (hk9 : Int), .bool r5, .int .i64 r6, .int .i64 r7, .slice kp kn kc, .int .u64 (lo : Int), .int .u64 (hi : Int)] 34 (0, 0))) w2.drew) := keepH ⟨HR2.out.at_, HQ2.out.ox⟩
  clear p0
  refine wp_region_held_drew (S := fun w => w.heap[s]? = some (.cells #[.int .i64 c0, .int .i64 (N : Int), .int .u64 (st : Int), .int .i64 mu, .pointer (some ⟨m, 0, none⟩), .slice (some ⟨G, 0, none⟩) N N, .slice (some ⟨D, 0, none⟩) N N, .int .u64 (tk : Int), .int .i64 (n1 : Int)] 95 (0, 0)) ∧ w.heap[P]? = some (.cells #[.int .u8 6, .int .u64 (k : Int), .int .u64 (x : Int), .int .u64 od, .int .u64 (hk9 : Int), .bool r5, .int .i64 r6, .int .i64 r7, .slice kp kn kc, .int .u64 (lo : Int), .int .u64 (hi : Int)] 34 (0, 0))) (by kernel_rfl) (HS2.out) ?_
  intro hHeld
  refine wpAnyH_take (i := 0) (v := ?_) rfl (by kernel_rfl) (by kernel_rfl) (by kernel_rfl) (fun _ _ _ h => h) (Or.inl ⟨by rfl, ?_⟩) hHeld ?_
  rotate_left
  · intro w hSw
    (try dsimp only at hSw)
    go_simp
    try with_reducible rfl
  (try simp only [Act.put]); (try simp only [List.setIfInBounds_toArray]); (try simp only [List.getElem_toArray]); (repeat (first | simp only [List.getElem_cons_succ] | simp only [List.getElem_cons_zero])); (repeat (first | simp only [List.set_cons_succ] | simp only [List.set_cons_zero]))
  refine wpAnyH_take (i := 1) (v := ?_) rfl (by kernel_rfl) (by kernel_rfl) (by kernel_rfl) (fun _ _ _ h => h) (Or.inl ⟨by rfl, ?_⟩) hHeld ?_
  rotate_left
  · intro w hSw
    (try dsimp only at hSw)
    go_simp
    try with_reducible rfl
  (try simp only [Act.put]); (try simp only [List.setIfInBounds_toArray]); (try simp only [List.getElem_toArray]); (repeat (first | simp only [List.getElem_cons_succ] | simp only [List.getElem_cons_zero])); (repeat (first | simp only [List.set_cons_succ] | simp only [List.set_cons_zero]))
  refine wpAnyH_take (i := 2) (v := ?_) rfl (by kernel_rfl) (by kernel_rfl) (by kernel_rfl) (fun _ _ _ h => h) (Or.inl ⟨by rfl, ?_⟩) hHeld ?_
  rotate_left
  · intro w hSw
    (try dsimp only at hSw)
    go_simp
    try with_reducible rfl
  (try simp only [Act.put]); (try simp only [List.setIfInBounds_toArray]); (try simp only [List.getElem_toArray]); (repeat (first | simp only [List.getElem_cons_succ] | simp only [List.getElem_cons_zero])); (repeat (first | simp only [List.set_cons_succ] | simp only [List.set_cons_zero]))
  refine wpAnyH_take (i := 3) (v := ?_) rfl (by kernel_rfl) (by kernel_rfl) (by kernel_rfl) (fun _ _ _ h => h) (Or.inl ⟨by rfl, ?_⟩) hHeld ?_
  rotate_left
  · intro w hSw
    (try dsimp only at hSw)
    have y4 := cell_of hSw.1 4
    go_simp
    try with_reducible rfl
  (try simp only [Act.put]); (try simp only [List.setIfInBounds_toArray]); (try simp only [List.getElem_toArray]); (repeat (first | simp only [List.getElem_cons_succ] | simp only [List.getElem_cons_zero])); (repeat (first | simp only [List.set_cons_succ] | simp only [List.set_cons_zero]))
  refine wpAnyH_take (i := 4) (v := ?_) rfl (by kernel_rfl) (by kernel_rfl) (by kernel_rfl) (fun _ _ _ h => h) (Or.inl ⟨by rfl, ?_⟩) hHeld ?_
  rotate_left
  · intro w hSw
    (try dsimp only at hSw)
    have o0 := cell_of hSw.2 0
    have o1 := cell_of hSw.2 1
    have o2 := cell_of hSw.2 2
    have o3 := cell_of hSw.2 3
    have o4 := cell_of hSw.2 4
    have o5 := cell_of hSw.2 5
    have o6 := cell_of hSw.2 6
    have o7 := cell_of hSw.2 7
    have o8 := cell_of hSw.2 8
    have o9 := cell_of hSw.2 9
    have o10 := cell_of hSw.2 10
    go_simp
    try with_reducible rfl
  (try simp only [Act.put]); (try simp only [List.setIfInBounds_toArray]); (try simp only [List.getElem_toArray]); (repeat (first | simp only [List.getElem_cons_succ] | simp only [List.getElem_cons_zero])); (repeat (first | simp only [List.set_cons_succ] | simp only [List.set_cons_zero]))
  refine wpAnyH_ready (rs := [5, 6]) (by kernel_rfl) (by simp) ?_
  refine AllReadyH.cons rfl (fun KK hKK => ?_) (AllReadyH.cons rfl (fun KK hKK => ?_) AllReadyH.nil)
  · skip
    go_simp
    refine (HDO.out _ (chg_dn (Chg.refl _ _) 1)).mono ?_
    rintro e w5 ⟨⟨E, x1, x2, x3, x4, x5, x6, rfl, ho, hr6⟩, ⟨l', H', hm, hl1, hl2, hz⟩, hc5⟩
    have HZ5 : Hid (∀ z ∈ H', z ∈ H) := fun z hz9 => by rcases hz z hz9 with q | ⟨-, -, q⟩; exact q; exact absurd rfl q
    have HR5 := keepH ((HR2.out.quiet (chg_dn (Chg.refl _ _) 1)).call hc5 hm (fun z hz9 => HR2.out.slot z (HZ5.out z hz9)) (Nat.le_trans hl2 (by simp [up5]; exact HR2.out.cnt)))
    have HX5 : Hid ((#[.int .i64 E, x1, x2, x3, x4, x5, x6] : Array Value).all (·.oneCell') = true ∧ l'.length ≤ l.length + 1 ∧ (∀ z ∈ H', z ∈ H ∨ z.2.2 = l) ∧ ((6 : Int) = 6 → E = 0 → ∃ z ∈ H, z.1 = hk9)) := ⟨ho, hl1, fun z hz9 => .inl (HZ5.out z hz9), hr6⟩
    have HQ5 := keepH ((HQ2.out.off (chg_dn (Chg.refl (fun _ => False) w2) 1)).on hc5 (fun k x => ⟨.inr (.inl x), by have := HLB.out; omega⟩))
    have hcc := And.intro HR5.out.at_ HQ5.out.ox
    clear hm hl1 hl2 hz hc5 ho hr6
    refine hKK.out _ _ ?_ (fun hHeld => ?_)
    · exact hcc
    clear hKK KK
    (try simp only [Act.put]); (try simp only [List.setIfInBounds_toArray]); (try simp only [List.getElem_toArray]); (repeat (first | simp only [List.getElem_cons_succ] | simp only [List.getElem_cons_zero])); (repeat (first | simp only [List.set_cons_succ] | simp only [List.set_cons_zero]))
    obtain ⟨T, hT⟩ : ∃ T, T = w5.heap.size := ⟨_, rfl⟩
    obtain ⟨w6, hw6⟩ : ∃ w6, w6 = w5.alloc (.cells #[.int .i64 0, .bool false, .int .u64 0, .bool false, .int .u64 0, .slice none 0 0, .int .u64 0] 38) := ⟨_, rfl⟩
    have HT6 : Hid (w6.heap[T]? = some (.cells #[.int .i64 0, .bool false, .int .u64 0, .bool false, .int .u64 0, .slice none 0 0, .int .u64 0] 38 (0, 0))) := keepH (by rw [hw6, hT]; exact heap_alloc_new _ _)
    have HR6 := keepH (show R25 A w6 _ _ _ _ _ _ _ _ _ _ _ _ _ from by rw [hw6]; exact HR5.out.quiet ((Chg.refl _ _).alloc _))
    have HQ6 := keepH (show QB _ _ _ _ _ _ w6 from by rw [hw6]; exact HQ5.out.off ((Chg.refl _ _).alloc _))
    have HTT : Hid (W.heap.size ≤ T ∧ ¬ T = R ∧ ¬ T = P) := keepH (by have := HQ5.out.ch.size; have := lt_of HQ5.out.ax; have := lt_of HQ5.out.ox; omega)
    have hcc := And.intro HR6.out.at_ HQ6.out.ox
    refine wpAnyH_ready (rs := [6]) (by kernel_rfl) (by simp) ?_
    refine AllReadyH.cons rfl (fun KK hKK => ?_) AllReadyH.nil
    go_simp
    rw [← hw6, ← hT]
    clear hw6 hT
    refine hKK.out _ _ ?_ (fun hHeld => ?_)
    · exact hcc
    clear hKK KK
    (try simp only [Act.put]); (try simp only [List.setIfInBounds_toArray]); (try simp only [List.getElem_toArray]); (repeat (first | simp only [List.getElem_cons_succ] | simp only [List.getElem_cons_zero])); (repeat (first | simp only [List.set_cons_succ] | simp only [List.set_cons_zero]))
    have HR7 : Hid (R25 A (w6.setCells T 0 [.int .i64 E, x1, x2, x3, x4, x5, x6]) s m G D c0 N st mu tk n1 (stepG 6 g k x od) l' H') := keepH (HR6.out.box HT6.out [.int .i64 E, x1, x2, x3, x4, x5, x6])
    have HQ7 := keepH (HQ6.out.past (chg_seven (w := w6) (R := T) [.int .i64 E, x1, x2, x3, x4, x5, x6] 0) (fun k e => by subst e; exact ⟨HTT.out.2.2, HTT.out.2.1, HTT.out.1⟩))
    have HT7 : Hid ((w6.setCells T 0 [.int .i64 E, x1, x2, x3, x4, x5, x6]).heap[T]? = some (.cells #[.int .i64 E, x1, x2, x3, x4, x5, x6] 38 (0, 0))) := keepH (setCells_of 38 T [.int .i64 E, x1, x2, x3, x4, x5, x6] [] (#[.int .i64 0, .bool false, .int .u64 0, .bool false, .int .u64 0, .slice none 0 0, .int .u64 0] : Array Value).toList [] w6 HT6.out rfl)
    have hcc := And.intro HR7.out.at_ HQ7.out.ox
    refine wpAnyH_ready (rs := [7]) (by kernel_rfl) (by simp) ?_
    refine AllReadyH.cons rfl (fun KK hKK => ?_) AllReadyH.nil
    refine step_store_row6 rfl 38 (.tmp 6) (.tmp 34) rfl T 0 #[.int .i64 E, x1, x2, x3, x4, x5, x6] rfl rfl (there7 HT6.out) (by kernel_rfl) HX5.out.1 ?_
    refine hKK.out _ _ ?_ (fun hHeld => ?_)
    · exact hcc
    clear hKK KK
    (try simp only [Act.put]); (try simp only [List.setIfInBounds_toArray]); (try simp only [List.getElem_toArray]); (repeat (first | simp only [List.getElem_cons_succ] | simp only [List.getElem_cons_zero])); (repeat (first | simp only [List.set_cons_succ] | simp only [List.set_cons_zero]))
    refine wpAnyH_done (by kernel_rfl) ?_ _
    go_simp
    clear hHeld hcc HDO HS2
    generalize hw7 : World.setCells w6 T 0 _ = w7
    have HR8 : Hid (R25 A w7 s m G D c0 N st mu tk n1 (stepG 6 g k x od) l' H') := keepH (by rw [← hw7]; exact HR7.out)
    have HQ8 : Hid (QB (fun k => k = s ∨ k = m ∨ k = G ∨ k = D) W P R #[.int .u8 6, .int .u64 (k : Int), .int .u64 (x : Int), .int .u64 od, .int .u64 (hk9 : Int), .bool r5, .int .i64 r6, .int .i64 r7, .slice kp kn kc, .int .u64 (lo : Int), .int .u64 (hi : Int)] #[.int .i64 0, .bool false, .int .u64 0, .bool false, .int .u64 0, .slice none 0 0, .int .u64 0] w7) := keepH (by rw [← hw7]; exact HQ7.out)
    have HT8 : Hid (w7.heap[T]? = some (.cells #[.int .i64 E, x1, x2, x3, x4, x5, x6] 38 (0, 0))) := keepH (by rw [← hw7]; exact HT7.out)
    clear hw7 HR7 HQ7 HT7 HR6 HQ6 HT6
    have p0 : w7.cell? ⟨P, 0, none⟩ = some (.int .u8 6) := cell_of HQ8.out.ox 0
    have t0 : w7.cell? ⟨T, 0, none⟩ = some (.int .i64 E) := cell_of HT8.out 0
    by_cases hE : E = 0
    · subst hE
      have p4 : w7.cell? ⟨P, 4, none⟩ = some (.int .u64 (hk9 : Int)) := cell_of HQ8.out.ox 4
      obtain ⟨z9, hz9, hz8⟩ := HX5.out.2.2.2 rfl rfl
      have hsl := HR2.out.slot z9 hz9
      rw [hz8] at hsl
      obtain ⟨j, hj⟩ : ∃ j, j = hk9 % 65536 - 1 := ⟨_, rfl⟩
      have HJ : Hid (j < N) := keepH (by omega)
      have r1 : (hk9 : Int) % 65536 = (j : Int) + 1 := by omega
      have r2 : IntKind.u64.wrap ((hk9 : Int) % 65536 - 1) = (j : Int) := by have := HJ.out; have := HB.out.1; rw [IntKind.wrap_u64]; omega
      have r3 : IntKind.u64.wrap ((j : Int) + 1 - 1) = (j : Int) := by have := HJ.out; have := HB.out.1; rw [IntKind.wrap_u64]; omega
      clear hz9 hz8 hsl hj
      go_upto_region 9 with fail
      have HTD : Hid (¬ T = D ∧ ¬ T = G) := by obtain ⟨cg, hg, -⟩ := HR8.out.gr; obtain ⟨cd, hd, -⟩ := HR8.out.dr; exact ⟨ne_ty HT8.out hd (by decide), ne_ty HT8.out hg (by decide)⟩
      have s6 : w7.cell? ⟨s, 6, none⟩ = some (.slice (some ⟨D, 0, none⟩) N N) := cell_of HR8.out.at_ 6
      obtain ⟨b9, d9, f9⟩ := HR8.out.dr.get HJ.out
      have qj : (j : Int) < (N : Int) := by have := HJ.out; omega
      go_upto_region 10 with fail
      refine gen_world (P := fun w => Code.wp _ _ _ _ w) ?_
      intro w8 hw8
      have HR9 : Hid (R25 A w8 s m G D c0 N st mu tk n1 (stepG 6 g k x od) l' H') := keepH (by rw [hw8]; exact HR8.out.hold j false)
      have HQ9 : Hid (QB (fun k => k = s ∨ k = m ∨ k = G ∨ k = D) W P R #[.int .u8 6, .int .u64 (k : Int), .int .u64 (x : Int), .int .u64 od, .int .u64 (hk9 : Int), .bool r5, .int .i64 r6, .int .i64 r7, .slice kp kn kc, .int .u64 (lo : Int), .int .u64 (hi : Int)] #[.int .i64 0, .bool false, .int .u64 0, .bool false, .int .u64 0, .slice none 0 0, .int .u64 0] w8) := keepH (by rw [hw8]; exact HQ8.out.on ((Chg.refl (fun k => k = s ∨ k = m ∨ k = G ∨ k = D) _).setCell (fun _ => .inr (.inr (.inr rfl))) _) (fun k x => ⟨x, by have := HLB.out; omega⟩))
      have HT9 : Hid (w8.heap[T]? = some (.cells #[.int .i64 0, x1, x2, x3, x4, x5, x6] 38 (0, 0))) := keepH (by rw [hw8]; exact other_of HT8.out HTD.out.1 _)
      clear hw8 s6 d9 f9 t0 p4 p0
      have s5 : w8.cell? ⟨s, 5, none⟩ = some (.slice (some ⟨G, 0, none⟩) N N) := cell_of HR9.out.at_ 5
      obtain ⟨y, hy, g9, f9⟩ := HR9.out.gr.get HJ.out
      obtain ⟨y2, hy2⟩ : ∃ y2 : Nat, (y2 : Int) = ((y : Int) + 1) % 18446744073709551616 := ⟨(((y : Int) + 1) % 18446744073709551616).toNat, by omega⟩
      have r4 : IntKind.u64.wrap ((y : Int) + 1) = (y2 : Int) := by rw [IntKind.wrap_u64]; omega
      have HY2 : Hid (y2 < 18446744073709551616) := keepH (by omega)
      clear hy hy2
      go_upto_region 11 with fail
      refine gen_world (P := fun w => Code.wp _ _ _ _ w) ?_
      intro w9 hw9
      have HRa : Hid (R25 A w9 s m G D c0 N st mu tk n1 (stepG 6 g k x od) l' H') := keepH (by rw [hw9]; exact HR9.out.gen j HY2.out)
      have HQa : Hid (QB (fun k => k = s ∨ k = m ∨ k = G ∨ k = D) W P R #[.int .u8 6, .int .u64 (k : Int), .int .u64 (x : Int), .int .u64 od, .int .u64 (hk9 : Int), .bool r5, .int .i64 r6, .int .i64 r7, .slice kp kn kc, .int .u64 (lo : Int), .int .u64 (hi : Int)] #[.int .i64 0, .bool false, .int .u64 0, .bool false, .int .u64 0, .slice none 0 0, .int .u64 0] w9) := keepH (by rw [hw9]; exact HQ9.out.on ((Chg.refl (fun k => k = s ∨ k = m ∨ k = G ∨ k = D) _).setCell (fun _ => .inr (.inr (.inl rfl))) _) (fun k x => ⟨x, by have := HLB.out; omega⟩))
      have HTa : Hid (w9.heap[T]? = some (.cells #[.int .i64 0, x1, x2, x3, x4, x5, x6] 38 (0, 0))) := keepH (by rw [hw9]; exact other_of HT9.out HTD.out.2 _)
      clear hw9 s5 g9 f9
      have HS9 : Hid ((fun w => w.heap[T]? = some (.cells #[.int .i64 0, x1, x2, x3, x4, x5, x6] 38 (0, 0)) ∧ w.cell? ⟨s, 8, none⟩ = some (.int .i64 (n1 : Int))) w9.drew) := keepH ⟨HTa.out, cell_of HRa.out.at_ 8⟩
      have HNR : Hid (¬ T = R) := HTT.out.2.1
      have HQD : Hid (QB (fun k => k = s ∨ k = m ∨ k = G ∨ k = D) W P R #[.int .u8 6, .int .u64 (k : Int), .int .u64 (x : Int), .int .u64 od, .int .u64 (hk9 : Int), .bool r5, .int .i64 r6, .int .i64 r7, .slice kp kn kc, .int .u64 (lo : Int), .int .u64 (hi : Int)] #[.int .i64 0, .bool false, .int .u64 0, .bool false, .int .u64 0, .slice none 0 0, .int .u64 0] w9.drew) := keepH (HQa.out.off (chg_dn (Chg.refl (fun _ => False) w9) 1))
      have HRD : Hid (R25 A w9.drew s m G D c0 N st mu tk n1 (stepG 6 g k x od) l' H') := keepH (HRa.out.quiet (chg_dn (Chg.refl (fun _ => False) w9) 1))
      refine wp_region_held_drew (S := fun w => w.heap[T]? = some (.cells #[.int .i64 0, x1, x2, x3, x4, x5, x6] 38 (0, 0)) ∧ w.cell? ⟨s, 8, none⟩ = some (.int .i64 (n1 : Int))) (by kernel_rfl) (HS9.out) ?_
      intro hHeld
      refine wpAnyH_take (i := 0) (v := ?_) rfl (by kernel_rfl) (by kernel_rfl) (by kernel_rfl) (fun _ _ _ h => h) (Or.inl ⟨by rfl, ?_⟩) hHeld ?_
      rotate_left
      · intro w hSw
        (try dsimp only at hSw)
        have t0 := cell_of hSw.1 0
        have t1 := cell_of hSw.1 1
        have t2 := cell_of hSw.1 2
        have t3 := cell_of hSw.1 3
        have t4 := cell_of hSw.1 4
        have t5 := cell_of hSw.1 5
        have t6 := cell_of hSw.1 6
        go_simp
        try with_reducible rfl
      (try simp only [Act.put]); (try simp only [List.setIfInBounds_toArray]); (try simp only [List.getElem_toArray]); (repeat (first | simp only [List.getElem_cons_succ] | simp only [List.getElem_cons_zero])); (repeat (first | simp only [List.set_cons_succ] | simp only [List.set_cons_zero]))
      refine wpAnyH_take (i := 1) (v := ?_) rfl (by kernel_rfl) (by kernel_rfl) (by kernel_rfl) (fun _ _ _ h => h) (Or.inl ⟨by rfl, ?_⟩) hHeld ?_
      rotate_left
      · intro w hSw
        (try dsimp only at hSw)
        go_simp
        try with_reducible rfl
      (try simp only [Act.put]); (try simp only [List.setIfInBounds_toArray]); (try simp only [List.getElem_toArray]); (repeat (first | simp only [List.getElem_cons_succ] | simp only [List.getElem_cons_zero])); (repeat (first | simp only [List.set_cons_succ] | simp only [List.set_cons_zero]))
      refine wpAnyH_take (i := 2) (v := ?_) rfl (by kernel_rfl) (by kernel_rfl) (by kernel_rfl) (fun _ _ _ h => h) (Or.inl ⟨by rfl, ?_⟩) hHeld ?_
      rotate_left
      · intro w hSw
        (try dsimp only at hSw)
        go_simp
        try with_reducible rfl
      (try simp only [Act.put]); (try simp only [List.setIfInBounds_toArray]); (try simp only [List.getElem_toArray]); (repeat (first | simp only [List.getElem_cons_succ] | simp only [List.getElem_cons_zero])); (repeat (first | simp only [List.set_cons_succ] | simp only [List.set_cons_zero]))
      refine wpAnyH_take (i := 3) (v := ?_) rfl (by kernel_rfl) (by kernel_rfl) (by kernel_rfl) (fun _ _ _ h => h) (Or.inl ⟨by rfl, ?_⟩) hHeld ?_
      rotate_left
      · intro w hSw
        (try dsimp only at hSw)
        go_simp
        try with_reducible rfl
      (try simp only [Act.put]); (try simp only [List.setIfInBounds_toArray]); (try simp only [List.getElem_toArray]); (repeat (first | simp only [List.getElem_cons_succ] | simp only [List.getElem_cons_zero])); (repeat (first | simp only [List.set_cons_succ] | simp only [List.set_cons_zero]))
      refine wpAnyH_take (i := 4) (v := ?_) rfl (by kernel_rfl) (by kernel_rfl) (by kernel_rfl) (fun _ _ _ h => h) (Or.inl ⟨by rfl, ?_⟩) hHeld ?_
      rotate_left
      · intro w hSw
        (try dsimp only at hSw)
        have y8 := hSw.2
        go_simp
        try with_reducible rfl
      (try simp only [Act.put]); (try simp only [List.setIfInBounds_toArray]); (try simp only [List.getElem_toArray]); (repeat (first | simp only [List.getElem_cons_succ] | simp only [List.getElem_cons_zero])); (repeat (first | simp only [List.set_cons_succ] | simp only [List.set_cons_zero]))
      refine wpAnyH_take (i := 5) (v := ?_) rfl (by kernel_rfl) (by kernel_rfl) (by kernel_rfl) (fun _ _ _ h => h) (Or.inl ⟨by rfl, ?_⟩) hHeld ?_
      rotate_left
      · intro w hSw
        (try dsimp only at hSw)
        go_simp
        try with_reducible rfl
      (try simp only [Act.put]); (try simp only [List.setIfInBounds_toArray]); (try simp only [List.getElem_toArray]); (repeat (first | simp only [List.getElem_cons_succ] | simp only [List.getElem_cons_zero])); (repeat (first | simp only [List.set_cons_succ] | simp only [List.set_cons_zero]))
      refine wpAnyH_ready (rs := [6]) (by kernel_rfl) (by simp) ?_
      refine AllReadyH.cons rfl (fun KK hKK => ?_) AllReadyH.nil
      refine step_store_row6 rfl 38 (.tmp 4) (.tmp 62) rfl R 0 #[.int .i64 0, x1, x2, x3, x4, x5, x6] rfl rfl HQD.out.there (by kernel_rfl) (by simpa using HX5.out.1) ?_
      have HQE := keepH (HQD.out.seven (.int .i64 0) (x1) (x2) (x3) (x4) (x5) (x6))
      have HRE := keepH (R25.seven HQD.out HRD.out [.int .i64 0, x1, x2, x3, x4, x5, x6])
      have hcc := And.intro (((chg_seven (w := w9.drew) (R := R) [.int .i64 0, x1, x2, x3, x4, x5, x6] 0).block T (lt_of HTa.out) HNR.out).trans HTa.out) (cell_of HRE.out.at_ 8)
      refine hKK.out _ _ ?_ (fun hHeld => ?_)
      · exact hcc
      clear hKK KK
      (try simp only [Act.put]); (try simp only [List.setIfInBounds_toArray]); (try simp only [List.getElem_toArray]); (repeat (first | simp only [List.getElem_cons_succ] | simp only [List.getElem_cons_zero])); (repeat (first | simp only [List.set_cons_succ] | simp only [List.set_cons_zero]))
      refine wpAnyH_take (i := 7) (v := ?_) rfl (by kernel_rfl) (by kernel_rfl) (by kernel_rfl) (fun _ _ _ h => h) (Or.inl ⟨by rfl, ?_⟩) hHeld ?_
      rotate_left
      · intro w hSw
        (try dsimp only at hSw)
        go_simp
        try with_reducible rfl
      (try simp only [Act.put]); (try simp only [List.setIfInBounds_toArray]); (try simp only [List.getElem_toArray]); (repeat (first | simp only [List.getElem_cons_succ] | simp only [List.getElem_cons_zero])); (repeat (first | simp only [List.set_cons_succ] | simp only [List.set_cons_zero]))
      refine wpAnyH_done (by kernel_rfl) ?_ _
      go_simp
      clear hHeld HS9 hcc
      have e0 := cell_of HQE.out.ax 0
      have e1 := cell_of HQE.out.ax 1
      have e2 := cell_of HQE.out.ax 2
      have e3 := cell_of HQE.out.ax 3
      have e4 := cell_of HQE.out.ax 4
      have e5 := cell_of HQE.out.ax 5
      have e6 := cell_of HQE.out.ax 6
      simp at e0 e1 e2 e3 e4 e5 e6
      go_wp2_with fail
      (try simp only [Exit.inBlock, Exit.then])
      refine bodyPost_ret (v := .tuple #[.agg #[.int .i64 0, x1, x2, x3, x4, x5, x6], .int .i64 ((n1 : Int) - 1)]) (by simp [results, Try.results13, go_sem, e0, e1, e2, e3, e4, e5, e6]) rfl ?_
      exact ⟨⟨_, rfl⟩, ⟨tk, l', H', HRE.out, ⟨by omega, HX5.out.2.1, HX5.out.2.2.1⟩⟩, HQE.out.ch⟩
    · have m0 : decide (E = 0) = false := by simp; exact hE
      go_upto_region 11 with fail
      have HS9 : Hid ((fun w => w.heap[T]? = some (.cells #[.int .i64 E, x1, x2, x3, x4, x5, x6] 38 (0, 0)) ∧ w.cell? ⟨s, 8, none⟩ = some (.int .i64 (n1 : Int))) w7.drew) := keepH ⟨HT8.out, cell_of HR8.out.at_ 8⟩
      have HNR : Hid (¬ T = R) := HTT.out.2.1
      have HQD : Hid (QB (fun k => k = s ∨ k = m ∨ k = G ∨ k = D) W P R #[.int .u8 6, .int .u64 (k : Int), .int .u64 (x : Int), .int .u64 od, .int .u64 (hk9 : Int), .bool r5, .int .i64 r6, .int .i64 r7, .slice kp kn kc, .int .u64 (lo : Int), .int .u64 (hi : Int)] #[.int .i64 0, .bool false, .int .u64 0, .bool false, .int .u64 0, .slice none 0 0, .int .u64 0] w7.drew) := keepH (HQ8.out.off (chg_dn (Chg.refl (fun _ => False) w7) 1))
      have HRD : Hid (R25 A w7.drew s m G D c0 N st mu tk n1 (stepG 6 g k x od) l' H') := keepH (HR8.out.quiet (chg_dn (Chg.refl (fun _ => False) w7) 1))
      refine wp_region_held_drew (S := fun w => w.heap[T]? = some (.cells #[.int .i64 E, x1, x2, x3, x4, x5, x6] 38 (0, 0)) ∧ w.cell? ⟨s, 8, none⟩ = some (.int .i64 (n1 : Int))) (by kernel_rfl) (HS9.out) ?_
      intro hHeld
      refine wpAnyH_take (i := 0) (v := ?_) rfl (by kernel_rfl) (by kernel_rfl) (by kernel_rfl) (fun _ _ _ h => h) (Or.inl ⟨by rfl, ?_⟩) hHeld ?_
      rotate_left
      · intro w hSw
        (try dsimp only at hSw)
        have t0 := cell_of hSw.1 0
        have t1 := cell_of hSw.1 1
        have t2 := cell_of hSw.1 2
        have t3 := cell_of hSw.1 3
        have t4 := cell_of hSw.1 4
        have t5 := cell_of hSw.1 5
        have t6 := cell_of hSw.1 6
        go_simp
        try with_reducible rfl
      (try simp only [Act.put]); (try simp only [List.setIfInBounds_toArray]); (try simp only [List.getElem_toArray]); (repeat (first | simp only [List.getElem_cons_succ] | simp only [List.getElem_cons_zero])); (repeat (first | simp only [List.set_cons_succ] | simp only [List.set_cons_zero]))
      refine wpAnyH_take (i := 1) (v := ?_) rfl (by kernel_rfl) (by kernel_rfl) (by kernel_rfl) (fun _ _ _ h => h) (Or.inl ⟨by rfl, ?_⟩) hHeld ?_
      rotate_left
      · intro w hSw
        (try dsimp only at hSw)
        go_simp
        try with_reducible rfl
      (try simp only [Act.put]); (try simp only [List.setIfInBounds_toArray]); (try simp only [List.getElem_toArray]); (repeat (first | simp only [List.getElem_cons_succ] | simp only [List.getElem_cons_zero])); (repeat (first | simp only [List.set_cons_succ] | simp only [List.set_cons_zero]))
      refine wpAnyH_take (i := 2) (v := ?_) rfl (by kernel_rfl) (by kernel_rfl) (by kernel_rfl) (fun _ _ _ h => h) (Or.inl ⟨by rfl, ?_⟩) hHeld ?_
      rotate_left
      · intro w hSw
        (try dsimp only at hSw)
        go_simp
        try with_reducible rfl
      (try simp only [Act.put]); (try simp only [List.setIfInBounds_toArray]); (try simp only [List.getElem_toArray]); (repeat (first | simp only [List.getElem_cons_succ] | simp only [List.getElem_cons_zero])); (repeat (first | simp only [List.set_cons_succ] | simp only [List.set_cons_zero]))
      refine wpAnyH_take (i := 3) (v := ?_) rfl (by kernel_rfl) (by kernel_rfl) (by kernel_rfl) (fun _ _ _ h => h) (Or.inl ⟨by rfl, ?_⟩) hHeld ?_
      rotate_left
      · intro w hSw
        (try dsimp only at hSw)
        go_simp
        try with_reducible rfl
      (try simp only [Act.put]); (try simp only [List.setIfInBounds_toArray]); (try simp only [List.getElem_toArray]); (repeat (first | simp only [List.getElem_cons_succ] | simp only [List.getElem_cons_zero])); (repeat (first | simp only [List.set_cons_succ] | simp only [List.set_cons_zero]))
      refine wpAnyH_take (i := 4) (v := ?_) rfl (by kernel_rfl) (by kernel_rfl) (by kernel_rfl) (fun _ _ _ h => h) (Or.inl ⟨by rfl, ?_⟩) hHeld ?_
      rotate_left
      · intro w hSw
        (try dsimp only at hSw)
        have y8 := hSw.2
        go_simp
        try with_reducible rfl
      (try simp only [Act.put]); (try simp only [List.setIfInBounds_toArray]); (try simp only [List.getElem_toArray]); (repeat (first | simp only [List.getElem_cons_succ] | simp only [List.getElem_cons_zero])); (repeat (first | simp only [List.set_cons_succ] | simp only [List.set_cons_zero]))
      refine wpAnyH_take (i := 5) (v := ?_) rfl (by kernel_rfl) (by kernel_rfl) (by kernel_rfl) (fun _ _ _ h => h) (Or.inl ⟨by rfl, ?_⟩) hHeld ?_
      rotate_left
      · intro w hSw
        (try dsimp only at hSw)
        go_simp
        try with_reducible rfl
      (try simp only [Act.put]); (try simp only [List.setIfInBounds_toArray]); (try simp only [List.getElem_toArray]); (repeat (first | simp only [List.getElem_cons_succ] | simp only [List.getElem_cons_zero])); (repeat (first | simp only [List.set_cons_succ] | simp only [List.set_cons_zero]))
      refine wpAnyH_ready (rs := [6]) (by kernel_rfl) (by simp) ?_
      refine AllReadyH.cons rfl (fun KK hKK => ?_) AllReadyH.nil
      refine step_store_row6 rfl 38 (.tmp 4) (.tmp 62) rfl R 0 #[.int .i64 E, x1, x2, x3, x4, x5, x6] rfl rfl HQD.out.there (by kernel_rfl) (HX5.out.1) ?_
      have HQE := keepH (HQD.out.seven (.int .i64 E) (x1) (x2) (x3) (x4) (x5) (x6))
      have HRE := keepH (R25.seven HQD.out HRD.out [.int .i64 E, x1, x2, x3, x4, x5, x6])
      have hcc := And.intro (((chg_seven (w := w7.drew) (R := R) [.int .i64 E, x1, x2, x3, x4, x5, x6] 0).block T (lt_of HT8.out) HNR.out).trans HT8.out) (cell_of HRE.out.at_ 8)
      refine hKK.out _ _ ?_ (fun hHeld => ?_)
      · exact hcc
      clear hKK KK
      (try simp only [Act.put]); (try simp only [List.setIfInBounds_toArray]); (try simp only [List.getElem_toArray]); (repeat (first | simp only [List.getElem_cons_succ] | simp only [List.getElem_cons_zero])); (repeat (first | simp only [List.set_cons_succ] | simp only [List.set_cons_zero]))
      refine wpAnyH_take (i := 7) (v := ?_) rfl (by kernel_rfl) (by kernel_rfl) (by kernel_rfl) (fun _ _ _ h => h) (Or.inl ⟨by rfl, ?_⟩) hHeld ?_
      rotate_left
      · intro w hSw
        (try dsimp only at hSw)
        go_simp
        try with_reducible rfl
      (try simp only [Act.put]); (try simp only [List.setIfInBounds_toArray]); (try simp only [List.getElem_toArray]); (repeat (first | simp only [List.getElem_cons_succ] | simp only [List.getElem_cons_zero])); (repeat (first | simp only [List.set_cons_succ] | simp only [List.set_cons_zero]))
      refine wpAnyH_done (by kernel_rfl) ?_ _
      go_simp
      clear hHeld HS9 hcc
      have e0 := cell_of HQE.out.ax 0
      have e1 := cell_of HQE.out.ax 1
      have e2 := cell_of HQE.out.ax 2
      have e3 := cell_of HQE.out.ax 3
      have e4 := cell_of HQE.out.ax 4
      have e5 := cell_of HQE.out.ax 5
      have e6 := cell_of HQE.out.ax 6
      simp at e0 e1 e2 e3 e4 e5 e6
      go_wp2_with fail
      (try simp only [Exit.inBlock, Exit.then])
      refine bodyPost_ret (v := .tuple #[.agg #[.int .i64 E, x1, x2, x3, x4, x5, x6], .int .i64 ((n1 : Int) - 1)]) (by simp [results, Try.results13, go_sem, e0, e1, e2, e3, e4, e5, e6]) rfl ?_
      exact ⟨⟨_, rfl⟩, ⟨tk, l', H', HRE.out, ⟨by omega, HX5.out.2.1, HX5.out.2.2.1⟩⟩, HQE.out.ch⟩
  · skip
    obtain ⟨T, hT⟩ : ∃ T, T = w2.heap.size := ⟨_, rfl⟩
    obtain ⟨wb, hwb⟩ : ∃ wb, wb = (w2.alloc (.cells #[.int .i64 0, .bool false, .int .u64 0, .bool false, .int .u64 0, .slice none 0 0, .int .u64 0] 38)).drew := ⟨_, rfl⟩
    have HCB : Hid (Chg (fun _ => False) w2 wb) := keepH (by rw [hwb]; exact chg_dn ((Chg.refl _ _).alloc _) 1)
    have HTB : Hid (wb.heap[T]? = some (.cells #[.int .i64 0, .bool false, .int .u64 0, .bool false, .int .u64 0, .slice none 0 0, .int .u64 0] 38 (0, 0))) := keepH (by rw [hwb, hT]; exact heap_alloc_new _ _)
    have HQB := keepH (HQ2.out.off HCB.out)
    have HTT : Hid (W.heap.size ≤ T ∧ ¬ T = R ∧ ¬ T = P) := keepH (by have := HQ2.out.ch.size; have := lt_of HQ2.out.ax; have := lt_of HQ2.out.ox; omega)
    have hcc := And.intro (HR2.out.quiet HCB.out).at_ HQB.out.ox
    go_simp
    rw [← hwb, ← hT]
    clear hwb hT
    refine hKK.out _ _ ?_ (fun hHeld => ?_)
    · exact hcc
    clear hKK KK hcc
    (try simp only [Act.put]); (try simp only [List.setIfInBounds_toArray]); (try simp only [List.getElem_toArray]); (repeat (first | simp only [List.getElem_cons_succ] | simp only [List.getElem_cons_zero])); (repeat (first | simp only [List.set_cons_succ] | simp only [List.set_cons_zero]))
    refine wpAnyH_ready (rs := [5]) (by kernel_rfl) (by simp) ?_
    refine AllReadyH.cons rfl (fun KK hKK => ?_) AllReadyH.nil
    go_simp
    refine (HDO.out _ (HCB.out)).mono ?_
    rintro e w5 ⟨⟨E, x1, x2, x3, x4, x5, x6, rfl, ho, hr6⟩, ⟨l', H', hm, hl1, hl2, hz⟩, hc5⟩
    have HZ5 : Hid (∀ z ∈ H', z ∈ H) := fun z hz9 => by rcases hz z hz9 with q | ⟨-, -, q⟩; exact q; exact absurd rfl q
    have HR5 := keepH ((HR2.out.quiet (HCB.out)).call hc5 hm (fun z hz9 => HR2.out.slot z (HZ5.out z hz9)) (Nat.le_trans hl2 (by simp [up5]; exact HR2.out.cnt)))
    have HX5 : Hid ((#[.int .i64 E, x1, x2, x3, x4, x5, x6] : Array Value).all (·.oneCell') = true ∧ l'.length ≤ l.length + 1 ∧ (∀ z ∈ H', z ∈ H ∨ z.2.2 = l) ∧ ((6 : Int) = 6 → E = 0 → ∃ z ∈ H, z.1 = hk9)) := ⟨ho, hl1, fun z hz9 => .inl (HZ5.out z hz9), hr6⟩
    have HQ5 := keepH (HQB.out.on hc5 (fun k x => ⟨.inr (.inl x), by have := HLB.out; omega⟩))
    have HT6 : Hid (w5.heap[T]? = some (.cells #[.int .i64 0, .bool false, .int .u64 0, .bool false, .int .u64 0, .slice none 0 0, .int .u64 0] 38 (0, 0))) := keepH ((hc5.block T (lt_of HTB.out) (by have := HTT.out; have := HLB.out; omega)).trans HTB.out)
    have HR6 := HR5
    have HQ6 := HQ5
    clear HR5 HQ5 HTB HQB HCB
    obtain ⟨w6, hw6⟩ : ∃ w6, w6 = w5 := ⟨_, rfl⟩
    subst hw6
    have hcc := And.intro HR6.out.at_ HQ6.out.ox
    clear hm hl1 hl2 hz hc5 ho hr6
    refine hKK.out _ _ ?_ (fun hHeld => ?_)
    · exact hcc
    clear hKK KK
    (try simp only [Act.put]); (try simp only [List.setIfInBounds_toArray]); (try simp only [List.getElem_toArray]); (repeat (first | simp only [List.getElem_cons_succ] | simp only [List.getElem_cons_zero])); (repeat (first | simp only [List.set_cons_succ] | simp only [List.set_cons_zero]))
    have HR7 : Hid (R25 A (w6.setCells T 0 [.int .i64 E, x1, x2, x3, x4, x5, x6]) s m G D c0 N st mu tk n1 (stepG 6 g k x od) l' H') := keepH (HR6.out.box HT6.out [.int .i64 E, x1, x2, x3, x4, x5, x6])
    have HQ7 := keepH (HQ6.out.past (chg_seven (w := w6) (R := T) [.int .i64 E, x1, x2, x3, x4, x5, x6] 0) (fun k e => by subst e; exact ⟨HTT.out.2.2, HTT.out.2.1, HTT.out.1⟩))
    have HT7 : Hid ((w6.setCells T 0 [.int .i64 E, x1, x2, x3, x4, x5, x6]).heap[T]? = some (.cells #[.int .i64 E, x1, x2, x3, x4, x5, x6] 38 (0, 0))) := keepH (setCells_of 38 T [.int .i64 E, x1, x2, x3, x4, x5, x6] [] (#[.int .i64 0, .bool false, .int .u64 0, .bool false, .int .u64 0, .slice none 0 0, .int .u64 0] : Array Value).toList [] w6 HT6.out rfl)
    have hcc := And.intro HR7.out.at_ HQ7.out.ox
    refine wpAnyH_ready (rs := [7]) (by kernel_rfl) (by simp) ?_
    refine AllReadyH.cons rfl (fun KK hKK => ?_) AllReadyH.nil
    refine step_store_row6 rfl 38 (.tmp 6) (.tmp 34) rfl T 0 #[.int .i64 E, x1, x2, x3, x4, x5, x6] rfl rfl (there7 HT6.out) (by kernel_rfl) HX5.out.1 ?_
    refine hKK.out _ _ ?_ (fun hHeld => ?_)
    · exact hcc
    clear hKK KK
    (try simp only [Act.put]); (try simp only [List.setIfInBounds_toArray]); (try simp only [List.getElem_toArray]); (repeat (first | simp only [List.getElem_cons_succ] | simp only [List.getElem_cons_zero])); (repeat (first | simp only [List.set_cons_succ] | simp only [List.set_cons_zero]))
    refine wpAnyH_done (by kernel_rfl) ?_ _
    go_simp
    clear hHeld hcc HDO HS2
    generalize hw7 : World.setCells w6 T 0 _ = w7
    have HR8 : Hid (R25 A w7 s m G D c0 N st mu tk n1 (stepG 6 g k x od) l' H') := keepH (by rw [← hw7]; exact HR7.out)
    have HQ8 : Hid (QB (fun k => k = s ∨ k = m ∨ k = G ∨ k = D) W P R #[.int .u8 6, .int .u64 (k : Int), .int .u64 (x : Int), .int .u64 od, .int .u64 (hk9 : Int), .bool r5, .int .i64 r6, .int .i64 r7, .slice kp kn kc, .int .u64 (lo : Int), .int .u64 (hi : Int)] #[.int .i64 0, .bool false, .int .u64 0, .bool false, .int .u64 0, .slice none 0 0, .int .u64 0] w7) := keepH (by rw [← hw7]; exact HQ7.out)
    have HT8 : Hid (w7.heap[T]? = some (.cells #[.int .i64 E, x1, x2, x3, x4, x5, x6] 38 (0, 0))) := keepH (by rw [← hw7]; exact HT7.out)
    clear hw7 HR7 HQ7 HT7 HR6 HQ6 HT6
    have p0 : w7.cell? ⟨P, 0, none⟩ = some (.int .u8 6) := cell_of HQ8.out.ox 0
    have t0 : w7.cell? ⟨T, 0, none⟩ = some (.int .i64 E) := cell_of HT8.out 0
    by_cases hE : E = 0
    · subst hE
      have p4 : w7.cell? ⟨P, 4, none⟩ = some (.int .u64 (hk9 : Int)) := cell_of HQ8.out.ox 4
      obtain ⟨z9, hz9, hz8⟩ := HX5.out.2.2.2 rfl rfl
      have hsl := HR2.out.slot z9 hz9
      rw [hz8] at hsl
      obtain ⟨j, hj⟩ : ∃ j, j = hk9 % 65536 - 1 := ⟨_, rfl⟩
      have HJ : Hid (j < N) := keepH (by omega)
      have r1 : (hk9 : Int) % 65536 = (j : Int) + 1 := by omega
      have r2 : IntKind.u64.wrap ((hk9 : Int) % 65536 - 1) = (j : Int) := by have := HJ.out; have := HB.out.1; rw [IntKind.wrap_u64]; omega
      have r3 : IntKind.u64.wrap ((j : Int) + 1 - 1) = (j : Int) := by have := HJ.out; have := HB.out.1; rw [IntKind.wrap_u64]; omega
      clear hz9 hz8 hsl hj
      go_upto_region 9 with fail
      have HTD : Hid (¬ T = D ∧ ¬ T = G) := by obtain ⟨cg, hg, -⟩ := HR8.out.gr; obtain ⟨cd, hd, -⟩ := HR8.out.dr; exact ⟨ne_ty HT8.out hd (by decide), ne_ty HT8.out hg (by decide)⟩
      have s6 : w7.cell? ⟨s, 6, none⟩ = some (.slice (some ⟨D, 0, none⟩) N N) := cell_of HR8.out.at_ 6
      obtain ⟨b9, d9, f9⟩ := HR8.out.dr.get HJ.out
      have qj : (j : Int) < (N : Int) := by have := HJ.out; omega
      go_upto_region 10 with fail
      refine gen_world (P := fun w => Code.wp _ _ _ _ w) ?_
      intro w8 hw8
      have HR9 : Hid (R25 A w8 s m G D c0 N st mu tk n1 (stepG 6 g k x od) l' H') := keepH (by rw [hw8]; exact HR8.out.hold j false)
      have HQ9 : Hid (QB (fun k => k = s ∨ k = m ∨ k = G ∨ k = D) W P R #[.int .u8 6, .int .u64 (k : Int), .int .u64 (x : Int), .int .u64 od, .int .u64 (hk9 : Int), .bool r5, .int .i64 r6, .int .i64 r7, .slice kp kn kc, .int .u64 (lo : Int), .int .u64 (hi : Int)] #[.int .i64 0, .bool false, .int .u64 0, .bool false, .int .u64 0, .slice none 0 0, .int .u64 0] w8) := keepH (by rw [hw8]; exact HQ8.out.on ((Chg.refl (fun k => k = s ∨ k = m ∨ k = G ∨ k = D) _).setCell (fun _ => .inr (.inr (.inr rfl))) _) (fun k x => ⟨x, by have := HLB.out; omega⟩))
      have HT9 : Hid (w8.heap[T]? = some (.cells #[.int .i64 0, x1, x2, x3, x4, x5, x6] 38 (0, 0))) := keepH (by rw [hw8]; exact other_of HT8.out HTD.out.1 _)
      clear hw8 s6 d9 f9 t0 p4 p0
      have s5 : w8.cell? ⟨s, 5, none⟩ = some (.slice (some ⟨G, 0, none⟩) N N) := cell_of HR9.out.at_ 5
      obtain ⟨y, hy, g9, f9⟩ := HR9.out.gr.get HJ.out
      obtain ⟨y2, hy2⟩ : ∃ y2 : Nat, (y2 : Int) = ((y : Int) + 1) % 18446744073709551616 := ⟨(((y : Int) + 1) % 18446744073709551616).toNat, by omega⟩
      have r4 : IntKind.u64.wrap ((y : Int) + 1) = (y2 : Int) := by rw [IntKind.wrap_u64]; omega
      have HY2 : Hid (y2 < 18446744073709551616) := keepH (by omega)
      clear hy hy2
      go_upto_region 11 with fail
      refine gen_world (P := fun w => Code.wp _ _ _ _ w) ?_
      intro w9 hw9
      have HRa : Hid (R25 A w9 s m G D c0 N st mu tk n1 (stepG 6 g k x od) l' H') := keepH (by rw [hw9]; exact HR9.out.gen j HY2.out)
      have HQa : Hid (QB (fun k => k = s ∨ k = m ∨ k = G ∨ k = D) W P R #[.int .u8 6, .int .u64 (k : Int), .int .u64 (x : Int), .int .u64 od, .int .u64 (hk9 : Int), .bool r5, .int .i64 r6, .int .i64 r7, .slice kp kn kc, .int .u64 (lo : Int), .int .u64 (hi : Int)] #[.int .i64 0, .bool false, .int .u64 0, .bool false, .int .u64 0, .slice none 0 0, .int .u64 0] w9) := keepH (by rw [hw9]; exact HQ9.out.on ((Chg.refl (fun k => k = s ∨ k = m ∨ k = G ∨ k = D) _).setCell (fun _ => .inr (.inr (.inl rfl))) _) (fun k x => ⟨x, by have := HLB.out; omega⟩))
      have HTa : Hid (w9.heap[T]? = some (.cells #[.int .i64 0, x1, x2, x3, x4, x5, x6] 38 (0, 0))) := keepH (by rw [hw9]; exact other_of HT9.out HTD.out.2 _)
      clear hw9 s5 g9 f9
      have HS9 : Hid ((fun w => w.heap[T]? = some (.cells #[.int .i64 0, x1, x2, x3, x4, x5, x6] 38 (0, 0)) ∧ w.cell? ⟨s, 8, none⟩ = some (.int .i64 (n1 : Int))) w9.drew) := keepH ⟨HTa.out, cell_of HRa.out.at_ 8⟩
      have HNR : Hid (¬ T = R) := HTT.out.2.1
      have HQD : Hid (QB (fun k => k = s ∨ k = m ∨ k = G ∨ k = D) W P R #[.int .u8 6, .int .u64 (k : Int), .int .u64 (x : Int), .int .u64 od, .int .u64 (hk9 : Int), .bool r5, .int .i64 r6, .int .i64 r7, .slice kp kn kc, .int .u64 (lo : Int), .int .u64 (hi : Int)] #[.int .i64 0, .bool false, .int .u64 0, .bool false, .int .u64 0, .slice none 0 0, .int .u64 0] w9.drew) := keepH (HQa.out.off (chg_dn (Chg.refl (fun _ => False) w9) 1))
      have HRD : Hid (R25 A w9.drew s m G D c0 N st mu tk n1 (stepG 6 g k x od) l' H') := keepH (HRa.out.quiet (chg_dn (Chg.refl (fun _ => False) w9) 1))
      refine wp_region_held_drew (S := fun w => w.heap[T]? = some (.cells #[.int .i64 0, x1, x2, x3, x4, x5, x6] 38 (0, 0)) ∧ w.cell? ⟨s, 8, none⟩ = some (.int .i64 (n1 : Int))) (by kernel_rfl) (HS9.out) ?_
      intro hHeld
      refine wpAnyH_take (i := 0) (v := ?_) rfl (by kernel_rfl) (by kernel_rfl) (by kernel_rfl) (fun _ _ _ h => h) (Or.inl ⟨by rfl, ?_⟩) hHeld ?_
      rotate_left
      · intro w hSw
        (try dsimp only at hSw)
        have t0 := cell_of hSw.1 0
        have t1 := cell_of hSw.1 1
        have t2 := cell_of hSw.1 2
        have t3 := cell_of hSw.1 3
        have t4 := cell_of hSw.1 4
        have t5 := cell_of hSw.1 5
        have t6 := cell_of hSw.1 6
        go_simp
        try with_reducible rfl
      (try simp only [Act.put]); (try simp only [List.setIfInBounds_toArray]); (try simp only [List.getElem_toArray]); (repeat (first | simp only [List.getElem_cons_succ] | simp only [List.getElem_cons_zero])); (repeat (first | simp only [List.set_cons_succ] | simp only [List.set_cons_zero]))
      refine wpAnyH_take (i := 1) (v := ?_) rfl (by kernel_rfl) (by kernel_rfl) (by kernel_rfl) (fun _ _ _ h => h) (Or.inl ⟨by rfl, ?_⟩) hHeld ?_
      rotate_left
      · intro w hSw
        (try dsimp only at hSw)
        go_simp
        try with_reducible rfl
      (try simp only [Act.put]); (try simp only [List.setIfInBounds_toArray]); (try simp only [List.getElem_toArray]); (repeat (first | simp only [List.getElem_cons_succ] | simp only [List.getElem_cons_zero])); (repeat (first | simp only [List.set_cons_succ] | simp only [List.set_cons_zero]))
      refine wpAnyH_take (i := 2) (v := ?_) rfl (by kernel_rfl) (by kernel_rfl) (by kernel_rfl) (fun _ _ _ h => h) (Or.inl ⟨by rfl, ?_⟩) hHeld ?_
      rotate_left
      · intro w hSw
        (try dsimp only at hSw)
        go_simp
        try with_reducible rfl
      (try simp only [Act.put]); (try simp only [List.setIfInBounds_toArray]); (try simp only [List.getElem_toArray]); (repeat (first | simp only [List.getElem_cons_succ] | simp only [List.getElem_cons_zero])); (repeat (first | simp only [List.set_cons_succ] | simp only [List.set_cons_zero]))
      refine wpAnyH_take (i := 3) (v := ?_) rfl (by kernel_rfl) (by kernel_rfl) (by kernel_rfl) (fun _ _ _ h => h) (Or.inl ⟨by rfl, ?_⟩) hHeld ?_
      rotate_left
      · intro w hSw
        (try dsimp only at hSw)
        go_simp
        try with_reducible rfl
      (try simp only [Act.put]); (try simp only [List.setIfInBounds_toArray]); (try simp only [List.getElem_toArray]); (repeat (first | simp only [List.getElem_cons_succ] | simp only [List.getElem_cons_zero])); (repeat (first | simp only [List.set_cons_succ] | simp only [List.set_cons_zero]))
      refine wpAnyH_take (i := 4) (v := ?_) rfl (by kernel_rfl) (by kernel_rfl) (by kernel_rfl) (fun _ _ _ h => h) (Or.inl ⟨by rfl, ?_⟩) hHeld ?_
      rotate_left
      · intro w hSw
        (try dsimp only at hSw)
        have y8 := hSw.2
        go_simp
        try with_reducible rfl
      (try simp only [Act.put]); (try simp only [List.setIfInBounds_toArray]); (try simp only [List.getElem_toArray]); (repeat (first | simp only [List.getElem_cons_succ] | simp only [List.getElem_cons_zero])); (repeat (first | simp only [List.set_cons_succ] | simp only [List.set_cons_zero]))
      refine wpAnyH_take (i := 5) (v := ?_) rfl (by kernel_rfl) (by kernel_rfl) (by kernel_rfl) (fun _ _ _ h => h) (Or.inl ⟨by rfl, ?_⟩) hHeld ?_
      rotate_left
      · intro w hSw
        (try dsimp only at hSw)
        go_simp
        try with_reducible rfl
      (try simp only [Act.put]); (try simp only [List.setIfInBounds_toArray]); (try simp only [List.getElem_toArray]); (repeat (first | simp only [List.getElem_cons_succ] | simp only [List.getElem_cons_zero])); (repeat (first | simp only [List.set_cons_succ] | simp only [List.set_cons_zero]))
      refine wpAnyH_ready (rs := [6]) (by kernel_rfl) (by simp) ?_
      refine AllReadyH.cons rfl (fun KK hKK => ?_) AllReadyH.nil
      refine step_store_row6 rfl 38 (.tmp 4) (.tmp 62) rfl R 0 #[.int .i64 0, x1, x2, x3, x4, x5, x6] rfl rfl HQD.out.there (by kernel_rfl) (by simpa using HX5.out.1) ?_
      have HQE := keepH (HQD.out.seven (.int .i64 0) (x1) (x2) (x3) (x4) (x5) (x6))
      have HRE := keepH (R25.seven HQD.out HRD.out [.int .i64 0, x1, x2, x3, x4, x5, x6])
      have hcc := And.intro (((chg_seven (w := w9.drew) (R := R) [.int .i64 0, x1, x2, x3, x4, x5, x6] 0).block T (lt_of HTa.out) HNR.out).trans HTa.out) (cell_of HRE.out.at_ 8)
      refine hKK.out _ _ ?_ (fun hHeld => ?_)
      · exact hcc
      clear hKK KK
      (try simp only [Act.put]); (try simp only [List.setIfInBounds_toArray]); (try simp only [List.getElem_toArray]); (repeat (first | simp only [List.getElem_cons_succ] | simp only [List.getElem_cons_zero])); (repeat (first | simp only [List.set_cons_succ] | simp only [List.set_cons_zero]))
      refine wpAnyH_take (i := 7) (v := ?_) rfl (by kernel_rfl) (by kernel_rfl) (by kernel_rfl) (fun _ _ _ h => h) (Or.inl ⟨by rfl, ?_⟩) hHeld ?_
      rotate_left
      · intro w hSw
        (try dsimp only at hSw)
        go_simp
        try with_reducible rfl
      (try simp only [Act.put]); (try simp only [List.setIfInBounds_toArray]); (try simp only [List.getElem_toArray]); (repeat (first | simp only [List.getElem_cons_succ] | simp only [List.getElem_cons_zero])); (repeat (first | simp only [List.set_cons_succ] | simp only [List.set_cons_zero]))
      refine wpAnyH_done (by kernel_rfl) ?_ _
      go_simp
      clear hHeld HS9 hcc
      have e0 := cell_of HQE.out.ax 0
      have e1 := cell_of HQE.out.ax 1
      have e2 := cell_of HQE.out.ax 2
      have e3 := cell_of HQE.out.ax 3
      have e4 := cell_of HQE.out.ax 4
      have e5 := cell_of HQE.out.ax 5
      have e6 := cell_of HQE.out.ax 6
      simp at e0 e1 e2 e3 e4 e5 e6
      go_wp2_with fail
      (try simp only [Exit.inBlock, Exit.then])
      refine bodyPost_ret (v := .tuple #[.agg #[.int .i64 0, x1, x2, x3, x4, x5, x6], .int .i64 ((n1 : Int) - 1)]) (by simp [results, Try.results13, go_sem, e0, e1, e2, e3, e4, e5, e6]) rfl ?_
      exact ⟨⟨_, rfl⟩, ⟨tk, l', H', HRE.out, ⟨by omega, HX5.out.2.1, HX5.out.2.2.1⟩⟩, HQE.out.ch⟩
    · have m0 : decide (E = 0) = false := by simp; exact hE
      go_upto_region 11 with fail
      have HS9 : Hid ((fun w => w.heap[T]? = some (.cells #[.int .i64 E, x1, x2, x3, x4, x5, x6] 38 (0, 0)) ∧ w.cell? ⟨s, 8, none⟩ = some (.int .i64 (n1 : Int))) w7.drew) := keepH ⟨HT8.out, cell_of HR8.out.at_ 8⟩
      have HNR : Hid (¬ T = R) := HTT.out.2.1
      have HQD : Hid (QB (fun k => k = s ∨ k = m ∨ k = G ∨ k = D) W P R #[.int .u8 6, .int .u64 (k : Int), .int .u64 (x : Int), .int .u64 od, .int .u64 (hk9 : Int), .bool r5, .int .i64 r6, .int .i64 r7, .slice kp kn kc, .int .u64 (lo : Int), .int .u64 (hi : Int)] #[.int .i64 0, .bool false, .int .u64 0, .bool false, .int .u64 0, .slice none 0 0, .int .u64 0] w7.drew) := keepH (HQ8.out.off (chg_dn (Chg.refl (fun _ => False) w7) 1))
      have HRD : Hid (R25 A w7.drew s m G D c0 N st mu tk n1 (stepG 6 g k x od) l' H') := keepH (HR8.out.quiet (chg_dn (Chg.refl (fun _ => False) w7) 1))
      refine wp_region_held_drew (S := fun w => w.heap[T]? = some (.cells #[.int .i64 E, x1, x2, x3, x4, x5, x6] 38 (0, 0)) ∧ w.cell? ⟨s, 8, none⟩ = some (.int .i64 (n1 : Int))) (by kernel_rfl) (HS9.out) ?_
      intro hHeld
      refine wpAnyH_take (i := 0) (v := ?_) rfl (by kernel_rfl) (by kernel_rfl) (by kernel_rfl) (fun _ _ _ h => h) (Or.inl ⟨by rfl, ?_⟩) hHeld ?_
      rotate_left
      · intro w hSw
        (try dsimp only at hSw)
        have t0 := cell_of hSw.1 0
        have t1 := cell_of hSw.1 1
        have t2 := cell_of hSw.1 2
        have t3 := cell_of hSw.1 3
        have t4 := cell_of hSw.1 4
        have t5 := cell_of hSw.1 5
        have t6 := cell_of hSw.1 6
        go_simp
        try with_reducible rfl
      (try simp only [Act.put]); (try simp only [List.setIfInBounds_toArray]); (try simp only [List.getElem_toArray]); (repeat (first | simp only [List.getElem_cons_succ] | simp only [List.getElem_cons_zero])); (repeat (first | simp only [List.set_cons_succ] | simp only [List.set_cons_zero]))
      refine wpAnyH_take (i := 1) (v := ?_) rfl (by kernel_rfl) (by kernel_rfl) (by kernel_rfl) (fun _ _ _ h => h) (Or.inl ⟨by rfl, ?_⟩) hHeld ?_
      rotate_left
      · intro w hSw
        (try dsimp only at hSw)
        go_simp
        try with_reducible rfl
      (try simp only [Act.put]); (try simp only [List.setIfInBounds_toArray]); (try simp only [List.getElem_toArray]); (repeat (first | simp only [List.getElem_cons_succ] | simp only [List.getElem_cons_zero])); (repeat (first | simp only [List.set_cons_succ] | simp only [List.set_cons_zero]))
      refine wpAnyH_take (i := 2) (v := ?_) rfl (by kernel_rfl) (by kernel_rfl) (by kernel_rfl) (fun _ _ _ h => h) (Or.inl ⟨by rfl, ?_⟩) hHeld ?_
      rotate_left
      · intro w hSw
        (try dsimp only at hSw)
        go_simp
        try with_reducible rfl
      (try simp only [Act.put]); (try simp only [List.setIfInBounds_toArray]); (try simp only [List.getElem_toArray]); (repeat (first | simp only [List.getElem_cons_succ] | simp only [List.getElem_cons_zero])); (repeat (first | simp only [List.set_cons_succ] | simp only [List.set_cons_zero]))
      refine wpAnyH_take (i := 3) (v := ?_) rfl (by kernel_rfl) (by kernel_rfl) (by kernel_rfl) (fun _ _ _ h => h) (Or.inl ⟨by rfl, ?_⟩) hHeld ?_
      rotate_left
      · intro w hSw
        (try dsimp only at hSw)
        go_simp
        try with_reducible rfl
      (try simp only [Act.put]); (try simp only [List.setIfInBounds_toArray]); (try simp only [List.getElem_toArray]); (repeat (first | simp only [List.getElem_cons_succ] | simp only [List.getElem_cons_zero])); (repeat (first | simp only [List.set_cons_succ] | simp only [List.set_cons_zero]))
      refine wpAnyH_take (i := 4) (v := ?_) rfl (by kernel_rfl) (by kernel_rfl) (by kernel_rfl) (fun _ _ _ h => h) (Or.inl ⟨by rfl, ?_⟩) hHeld ?_
      rotate_left
      · intro w hSw
        (try dsimp only at hSw)
        have y8 := hSw.2
        go_simp
        try with_reducible rfl
      (try simp only [Act.put]); (try simp only [List.setIfInBounds_toArray]); (try simp only [List.getElem_toArray]); (repeat (first | simp only [List.getElem_cons_succ] | simp only [List.getElem_cons_zero])); (repeat (first | simp only [List.set_cons_succ] | simp only [List.set_cons_zero]))
      refine wpAnyH_take (i := 5) (v := ?_) rfl (by kernel_rfl) (by kernel_rfl) (by kernel_rfl) (fun _ _ _ h => h) (Or.inl ⟨by rfl, ?_⟩) hHeld ?_
      rotate_left
      · intro w hSw
        (try dsimp only at hSw)
        go_simp
        try with_reducible rfl
      (try simp only [Act.put]); (try simp only [List.setIfInBounds_toArray]); (try simp only [List.getElem_toArray]); (repeat (first | simp only [List.getElem_cons_succ] | simp only [List.getElem_cons_zero])); (repeat (first | simp only [List.set_cons_succ] | simp only [List.set_cons_zero]))
      refine wpAnyH_ready (rs := [6]) (by kernel_rfl) (by simp) ?_
      refine AllReadyH.cons rfl (fun KK hKK => ?_) AllReadyH.nil
      refine step_store_row6 rfl 38 (.tmp 4) (.tmp 62) rfl R 0 #[.int .i64 E, x1, x2, x3, x4, x5, x6] rfl rfl HQD.out.there (by kernel_rfl) (HX5.out.1) ?_
      have HQE := keepH (HQD.out.seven (.int .i64 E) (x1) (x2) (x3) (x4) (x5) (x6))
      have HRE := keepH (R25.seven HQD.out HRD.out [.int .i64 E, x1, x2, x3, x4, x5, x6])
      have hcc := And.intro (((chg_seven (w := w7.drew) (R := R) [.int .i64 E, x1, x2, x3, x4, x5, x6] 0).block T (lt_of HT8.out) HNR.out).trans HT8.out) (cell_of HRE.out.at_ 8)
      refine hKK.out _ _ ?_ (fun hHeld => ?_)
      · exact hcc
      clear hKK KK
      (try simp only [Act.put]); (try simp only [List.setIfInBounds_toArray]); (try simp only [List.getElem_toArray]); (repeat (first | simp only [List.getElem_cons_succ] | simp only [List.getElem_cons_zero])); (repeat (first | simp only [List.set_cons_succ] | simp only [List.set_cons_zero]))
      refine wpAnyH_take (i := 7) (v := ?_) rfl (by kernel_rfl) (by kernel_rfl) (by kernel_rfl) (fun _ _ _ h => h) (Or.inl ⟨by rfl, ?_⟩) hHeld ?_
      rotate_left
      · intro w hSw
        (try dsimp only at hSw)
        go_simp
        try with_reducible rfl
      (try simp only [Act.put]); (try simp only [List.setIfInBounds_toArray]); (try simp only [List.getElem_toArray]); (repeat (first | simp only [List.getElem_cons_succ] | simp only [List.getElem_cons_zero])); (repeat (first | simp only [List.set_cons_succ] | simp only [List.set_cons_zero]))
      refine wpAnyH_done (by kernel_rfl) ?_ _
      go_simp
      clear hHeld HS9 hcc
      have e0 := cell_of HQE.out.ax 0
      have e1 := cell_of HQE.out.ax 1
      have e2 := cell_of HQE.out.ax 2
      have e3 := cell_of HQE.out.ax 3
      have e4 := cell_of HQE.out.ax 4
      have e5 := cell_of HQE.out.ax 5
      have e6 := cell_of HQE.out.ax 6
      simp at e0 e1 e2 e3 e4 e5 e6
      go_wp2_with fail
      (try simp only [Exit.inBlock, Exit.then])
      refine bodyPost_ret (v := .tuple #[.agg #[.int .i64 E, x1, x2, x3, x4, x5, x6], .int .i64 ((n1 : Int) - 1)]) (by simp [results, Try.results13, go_sem, e0, e1, e2, e3, e4, e5, e6]) rfl ?_
      exact ⟨⟨_, rfl⟩, ⟨tk, l', H', HRE.out, ⟨by omega, HX5.out.2.1, HX5.out.2.2.1⟩⟩, HQE.out.ch⟩
end Go.Proofs.Ytahgaghokpicgaa
