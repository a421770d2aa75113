/- A Cut alone; what must be whatever is asked (layer 15). -/
import Derived.Test.YtbjebnkfecjpnaaKgG
namespace Go.Proofs.Ytbjebnkfecjpnaa
open Go.RowKit Go.Shelf
set_option linter.unusedVariables false

structure KC where
  cs : List Nat
  s : CutS
  t : List Acc
def kgo (th : Int) (F : Nat) (l : List Nat) (most : Nat) (x : KC) : KC := ⟨(kstep th F l most x.cs x.s).1, (kstep th F l most x.cs x.s).2.1, x.t ++ [(kstep th F l most x.cs x.s).2.2]⟩
def kit (th : Int) (F : Nat) (l : List Nat) (most : Nat) (x : KC) : Nat → KC
  | 0 => x
  | i + 1 => kgo th F l most (kit th F l most x i)
theorem goOn_cnt (s : CutS) : s.goOn.cnt = s.cnt := rfl
theorem join_cnt (s : CutS) : s.join.cnt = s.cnt := by unfold CutS.join; split <;> rfl
theorem ask_cnt (s : CutS) (x : Nat) : (s.ask x).cnt = s.cnt := by
  unfold CutS.ask
  split
  · rw [join_cnt]
  · rfl
theorem kstep_cnt (th : Int) (F : Nat) (l : List Nat) (most : Nat) (cs : List Nat) (s : CutS) : (kstep th F l most cs s).2.1.cnt ≤ s.cnt + 1 := by
  unfold kstep
  split
  · simp
  · split
    · simp
    · split
      · simp
      · split
        · simp only [ask_cnt]; omega
        · split
          · simp only []
            split
            · rw [join_cnt]; simp
            · simp
          · split
            · simp only [ask_cnt]; omega
            · simp only [goOn_cnt]; omega
theorem kit_cnt (th : Int) (F : Nat) (l : List Nat) (most : Nat) (x : KC) (i : Nat) : (kit th F l most x i).s.cnt ≤ x.s.cnt + i := by
  induction i with
  | zero => exact Nat.le_refl _
  | succ i ih =>
    have := kstep_cnt th F l most (kit th F l most x i).cs (kit th F l most x i).s
    show (kstep th F l most (kit th F l most x i).cs (kit th F l most x i).s).2.1.cnt ≤ _
    omega
theorem kit_len (th : Int) (F : Nat) (l : List Nat) (most : Nat) (x : KC) (i : Nat) : (kit th F l most x i).t.length = x.t.length + i := by
  induction i with
  | zero => rfl
  | succ i ih => simp [kit, kgo, ih]; omega

theorem alone_cut {W : World} {m b v : Nat} {th : Int} {most : Nat} {w : World} {next made : Nat} {cs : List Nat} {t : List Acc} {E : Nat → Prop} {p F : Nat} {q : Option Addr} {d : Nat} {l : List Nat} {s : CutS} (h : KS W m b v th most w next made cs t E p F q d l s) (n lim : Nat) (hn : ∀ i, i ≤ n → (kit th F l most ⟨cs, s, t⟩ i).s.nx ≤ 6) (h7 : (kit th F l most ⟨cs, s, t⟩ (n + 1)).s.nx = 7) (hl : n < lim) (hlim : lim < 4611686018427387904) (hm : made + n < 1099511627776) (ht : t.length + n < 1099511627776) (hc : s.cnt = 0) :
    Calls Try.prog 25 #[.pointer (some ⟨v, 0, none⟩), .iface 39 (.pointer (some ⟨p, 0, none⟩)), .int .i64 (lim : Int)] w fun e w' => e = .returned (.bool true) ∧ KS W m b v th most w' next (made + (n + 1)) (kit th F l most ⟨cs, s, t⟩ (n + 1)).cs (kit th F l most ⟨cs, s, t⟩ (n + 1)).t E p F q d l (kit th F l most ⟨cs, s, t⟩ (n + 1)).s ∧ ∀ k, E k → w'.heap[k]? = w.heap[k]? := by
  refine (alone_falls (.iface 39 (.pointer (some ⟨p, 0, none⟩))) (.pointer (some ⟨v, 0, none⟩)) (fun k x => k ≤ n ∧ KS W m b v th most x next (made + (n - k)) (kit th F l most ⟨cs, s, t⟩ (n - k)).cs (kit th F l most ⟨cs, s, t⟩ (n - k)).t E p F q d l (kit th F l most ⟨cs, s, t⟩ (n - k)).s ∧ ∀ k, E k → x.heap[k]? = w.heap[k]?) (fun x => KS W m b v th most x next (made + (n + 1)) (kit th F l most ⟨cs, s, t⟩ (n + 1)).cs (kit th F l most ⟨cs, s, t⟩ (n + 1)).t E p F q d l (kit th F l most ⟨cs, s, t⟩ (n + 1)).s ∧ ∀ k, E k → x.heap[k]? = w.heap[k]?) n lim hl hlim w ⟨Nat.le_refl _, by rw [Nat.sub_self]; exact h, fun _ _ => rfl⟩ (fun k x hk hI => ?_))
  obtain ⟨_, hI, hE⟩ := hI
  have c1 := kit_cnt th F l most ⟨cs, s, t⟩ (n - k)
  have c2 := kit_len th F l most ⟨cs, s, t⟩ (n - k)
  simp only [] at c1 c2
  refine ⟨decide ((kit th F l most ⟨cs, s, t⟩ (n - k + 1)).s.nx = 7), ?_⟩
  refine (so_step hI (hn _ (by omega)) (by omega) (by omega) (by omega)).mono ?_
  rintro e y ⟨rfl, hK, hE2⟩
  refine ⟨rfl, ?_⟩
  have hK' : KS W m b v th most y next (made + (n - k) + 1) (kit th F l most ⟨cs, s, t⟩ (n - k + 1)).cs (kit th F l most ⟨cs, s, t⟩ (n - k + 1)).t E p F q d l (kit th F l most ⟨cs, s, t⟩ (n - k + 1)).s := hK
  by_cases e : k = 0
  · subst e
    simp only [Nat.sub_zero] at hK' ⊢
    left
    exact ⟨decide_eq_true h7, hK', fun k e => (hE2 k e).trans (hE k e)⟩
  · right
    have e1 : n - (k - 1) = n - k + 1 := by omega
    refine ⟨decide_eq_false (by have := hn (n - k + 1) (by omega); omega), k - 1, by omega, by omega, ?_, fun k e => (hE2 k e).trans (hE k e)⟩
    rw [e1, ← Nat.add_assoc]
    exact hK'

def liveC : KC := ⟨[0, 7, 1, 0, 8, 2, 1, 4], CutS.new 7, [⟨0, 5, 1, 0, 0, .slice none 0 0, [7, 1, 0], 0, false⟩, ⟨0, 5, 4, 0, 0, .slice none 0 0, [8, 2, 1], 0, false⟩, ⟨0, 5, 7, 0, 0, .slice none 0 0, [4], 0, false⟩]⟩
theorem live_kit : (∀ i, i ≤ 6 → (kit 0 9 [] 128 liveC i).s.nx ≤ 6) ∧ (kit 0 9 [] 128 liveC 7).s.nx = 7 ∧ (kit 0 9 [] 128 liveC 7).s.cnt = 1 ∧ (kit 0 9 [] 128 liveC 7).s.head = 8 ∧ cellN (kit 0 9 [] 128 liveC 7).cs 6 = 0 := by
  refine ⟨fun i hi => ?_, by decide, by decide, by decide, by decide⟩
  rcases (show i = 0 ∨ i = 1 ∨ i = 2 ∨ i = 3 ∨ i = 4 ∨ i = 5 ∨ i = 6 by omega) with rfl | rfl | rfl | rfl | rfl | rfl | rfl <;> decide

theorem SB.new0 {W W1 : World} {most : Nat} {th : Int} {D : Nat → Prop} (M1 : IsMem W1 (W.heap.size + 1) W.heap.size) (B1 : Bank W1 (fun k => k = W.heap.size) W.heap.size most 1 [] []) (C1 : Chg (fun _ => False) W W1) (S1 : W.heap.size + 2 ≤ W1.heap.size) :
    SB W (W.heap.size + 1) W.heap.size W1.heap.size th most (W1.alloc (.cells #[.iface 89 (.pointer (some ⟨W.heap.size, 0, none⟩)), .int .i64 th, .int .i64 0] 92)) 1 0 [] [] (fun _ => False) := by
  have c : Chg (fun _ => False) W1 (W1.alloc (.cells #[.iface 89 (.pointer (some ⟨W.heap.size, 0, none⟩)), .int .i64 th, .int .i64 0] 92)) := (Chg.refl _ _).alloc _
  exact ⟨fun k => k = W.heap.size, [], ⟨B1.chg c (fun _ _ h => h), heap_alloc_new _ _, M1.chg c (fun h => h), by omega, by omega, by omega, fun k e => by omega, by omega, C1.trans c (fun _ _ x => x) (fun _ _ x => x)⟩, rfl, fun k e => e.elim⟩
theorem KS.start {W w w' : World} {m b v : Nat} {th : Int} {most next made : Nat} {cs : List Nat} {t : List Acc} {E : Nat → Prop} {p F d obj : Nat} {q : Option Addr} {l : List Nat} (h : SB W m b v th most w next made cs t E) (c : Chg (fun _ => False) w w') (hp : w.heap.size ≤ p) (hc : IsCut w' p F (.slice q l.length d) (CutS.new obj)) (hu : U64At w' q l) (hq : ∀ bk off, q = some ⟨bk, off, none⟩ → l ≠ [] → bk ≠ p ∧ w.heap.size ≤ bk) (ho : obj < 18446744073709551616) (hl : l.length < 4611686018427387904) : KS W m b v th most w' next made cs t E p F q d l (CutS.new obj) := by
  refine ⟨h.grow (c.mono (fun _ _ x => x.elim)) (fun k e => ?_) (fun k e => ?_), hc, hu, fun bk off e hn => (hq bk off e hn).1, fun k hk e => ?_, ⟨ho, by show 0 < _; decide, by show 0 < _; decide⟩, hl⟩
  · rcases e with e | e | ⟨e, off, e2⟩
    · exact .inl e
    · exact .inr (by omega)
    · exact .inr (hq k off e2 e).2
  · rcases e with e | e | ⟨e, off, e2⟩
    · have := h.lt k e; have := c.size; omega
    · rw [e]; exact lt_of hc
    · rcases hu with z | ⟨bk, off', e3, hb, _⟩
      · exact absurd z e
      · rw [e2] at e3; simp at e3; omega
  · have := h.lt k e
    rcases hk with z | ⟨z, off, z2⟩
    · omega
    · have := (hq k off z2 z).2; omega

set_option maxRecDepth 100000 in
set_option maxHeartbeats 4000000 in
theorem live_15 (W : World) : Calls Try.prog 7 #[] W fun e W' => e = .returned (.bool true) ∧ Chg (fun _ => False) W W' := by
  obtain ⟨wa, hwa⟩ : ∃ wa, wa = W.alloc (.cells #[.int .u64 4, .slice none 0 0] 25) := ⟨_, rfl⟩
  have HBa : Hid (wa.heap[W.heap.size]? = some (.cells #[.int .u64 4, .slice none 0 0] 25 (0, 0))) := by rw [hwa]; exact heap_alloc_new _ _
  have HCa : Hid (Chg (fun _ => False) W wa) := by rw [hwa]; exact (Chg.refl _ _).alloc _
  have HWa := keepH hwa
  clear hwa
  go_enter Try.func7, Try.ntmps7
  go_upto_region 2 with fail
  rw [← HWa.out]
  clear HWa
  go_wp2_with fail
  refine (m_new 128 wa (by omega)).mono ?_
  rintro e W1 ⟨rfl, M1, B1, C1, S1⟩
  have HM1 := keepH M1
  have HB1 := keepH B1
  have HC1 := keepH C1
  have HS1 : Hid (wa.heap.size + 2 ≤ W1.heap.size) := by show _ ≤ _; omega
  have d0 : W1.cell? ⟨W.heap.size, 0, none⟩ = some (.int .u64 4) := cell_of ((C1.block _ (lt_of HBa.out) (fun x => x)).trans HBa.out) 0
  have d1 : W1.cell? ⟨W.heap.size, 1, none⟩ = some (.slice none 0 0) := cell_of ((C1.block _ (lt_of HBa.out) (fun x => x)).trans HBa.out) 1
  clear M1 B1 C1 S1
  go_wp2_with fail
  refine (k_needed 4 3 5 none 0 [] _ (.inl rfl) (by simp)).mono ?_
  rintro e W2 ⟨rfl, C2⟩
  rw [show ndN 4 [] 3 5 = true by decide]
  have HC2 := keepH C2
  clear C2 d0 d1
  go_wp2_with fail
  refine (k_needed 5 3 5 none 0 [] _ (.inl rfl) (by simp)).mono ?_
  rintro e W3 ⟨rfl, C3⟩
  rw [show ndN 5 [] 3 5 = false by decide]
  have HC3 := keepH (HC2.out.falls C3)
  clear C3 HC2
  have HM3 := keepH (HM1.out.chg HC3.out (fun x => x))
  go_wp2_with fail
  refine (m_view _ wa.heap.size 0 _ HM3.out).mono ?_
  rintro e w ⟨rfl, rfl⟩
  obtain ⟨w4, hw4⟩ : ∃ w4, w4 = W3.alloc (.cells #[.iface 89 (.pointer (some ⟨wa.heap.size, 0, none⟩)), .int .i64 0, .int .i64 0] 92) := ⟨_, rfl⟩
  have HB4 : Hid (SB wa (wa.heap.size + 1) wa.heap.size W3.heap.size 0 128 w4 1 0 [] [] (fun _ => False)) := by
    rw [hw4]
    exact SB.new0 (D := fun _ => False) HM3.out (HB1.out.chg HC3.out (fun _ _ x => x)) (HC1.out.falls HC3.out) (by have := HS1.out; have := HC3.out.size; omega)
  rw [← hw4]
  clear hw4 HM3 HB1 HC1 HC3 HS1 HM1
  obtain ⟨v, hv⟩ : ∃ v, v = W3.heap.size := ⟨_, rfl⟩
  rw [← hv] at HB4 ⊢
  clear hv
  obtain ⟨m, hm⟩ : ∃ m, m = wa.heap.size + 1 := ⟨_, rfl⟩
  rw [← hm] at HB4 ⊢
  clear hm
  obtain ⟨b, hb⟩ : ∃ b, b = wa.heap.size := ⟨_, rfl⟩
  rw [← hb] at HB4
  clear hb
  go_wp2_with fail
  refine (HB4.out.aloc [7, 1, 0] _ 3 rfl (by decide) (by decide) (by decide) (by decide)).mono ?_
  rintro e w5 ⟨rfl, S5, _⟩
  rw [show alAt 128 1 [7, 1, 0].length = 1 by decide]
  rw [show alNext 128 1 [7, 1, 0].length = 4 by decide, show alN 128 1 [] [7, 1, 0] = [0, 7, 1, 0] by decide, show alAt 128 1 [7, 1, 0].length = 1 by decide] at S5
  have HB5 := keepH S5
  clear S5 HB4
  go_wp2_with fail
  refine (HB5.out.aloc [8, 2, 1] _ 3 rfl (by decide) (by decide) (by decide) (by decide)).mono ?_
  rintro e w6 ⟨rfl, S6, _⟩
  rw [show alAt 128 4 [8, 2, 1].length = 4 by decide]
  rw [show alNext 128 4 [8, 2, 1].length = 7 by decide, show alN 128 4 [0, 7, 1, 0] [8, 2, 1] = [0, 7, 1, 0, 8, 2, 1] by decide, show alAt 128 4 [8, 2, 1].length = 4 by decide] at S6
  have HB6 := keepH S6
  clear S6 HB5
  go_wp2_with fail
  refine (HB6.out.aloc [4] _ 1 rfl (by decide) (by decide) (by decide) (by decide)).mono ?_
  rintro e w7 ⟨rfl, S7, _⟩
  rw [show alAt 128 7 [4].length = 7 by decide]
  rw [show alNext 128 7 [4].length = 8 by decide, show alN 128 7 [0, 7, 1, 0, 8, 2, 1] [4] = [0, 7, 1, 0, 8, 2, 1, 4] by decide, show alAt 128 7 [4].length = 7 by decide] at S7
  have HB7 := keepH S7
  clear S7 HB6
  go_wp2_with fail
  refine (k_new 0 7 9 none 0 [] _ (.inl rfl) (by simp) (by simp)).mono ?_
  rintro e w8 ⟨p, q, d, rfl, hp, hI, hU, hq, hC⟩
  have HK8 := keepH (KS.start HB7.out hC hp hI hU hq (by decide) (by simp))
  clear hp hI hU hq hC HB7
  go_wp2_with fail
  refine (alone_cut HK8.out 6 8 live_kit.1 live_kit.2.1 (by decide) (by decide) (by decide) (by decide) rfl).mono ?_
  rintro e w9 ⟨rfl, hK0, _⟩
  obtain ⟨X, hX⟩ : ∃ X, X = kit 0 9 [] 128 liveC 7 := ⟨_, rfl⟩
  have hK : KS wa m b v 0 128 w9 8 (3 + (6 + 1)) X.cs X.t (fun _ => False) p 9 q d [] X.s := by rw [hX]; exact hK0
  have x7 : X.s.nx = 7 := by rw [hX]; exact live_kit.2.1
  have x1 : X.s.cnt = 1 := by rw [hX]; exact live_kit.2.2.1
  have x8 : X.s.head = 8 := by rw [hX]; exact live_kit.2.2.2.1
  have x6 : cellN X.cs 6 = 0 := by rw [hX]; exact live_kit.2.2.2.2
  clear hX hK0
  obtain ⟨F9, l9, hM, hB, _⟩ := hK.sb.mem
  have HM9 := keepH hM
  have HB9 := keepH hB
  have HC9 := keepH (HCa.out.falls hK.sb.chg)
  have HK9 := keepH hK.cut
  clear hK hM hB HK8
  go_wp2_with fail
  refine (k_count p 9 _ _ _ HK9.out x7).mono ?_
  rintro e w ⟨rfl, rfl⟩
  rw [x1]
  go_wp2_with fail
  refine (k_head p 9 _ _ _ HK9.out x7).mono ?_
  rintro e w ⟨rfl, rfl⟩
  rw [x8]
  go_wp2_with fail
  refine (m_peek m b 128 8 6 F9 _ l9 _ HM9.out HB9.out (by decide)).mono ?_
  rintro e w ⟨rfl, rfl⟩
  rw [x6]
  go_wp2_with fail
  go_ret
  exact ⟨by simp, HC9.out⟩
end Go.Proofs.Ytbjebnkfecjpnaa
