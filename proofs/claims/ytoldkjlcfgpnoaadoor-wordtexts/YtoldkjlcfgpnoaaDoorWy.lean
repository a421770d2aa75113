/- The document's Parse, at every text. -/
import Derived.Test.YtoldkjlcfgpnoaaDoorWv
import Derived.Laws.Strings2
import Derived.Laws.Slices
namespace Go.Proofs.YtoldkjlcfgpnoaaDoor
open Go.RowKit Go.Shelf
set_option linter.unusedVariables false

theorem c_at {l : List UInt8} {n : Nat} (h : noSp (l.take n)) (hn : n < l.length) (h2 : l[n]? = some 32) : l.take n = c1 l ∧ l.drop (n + 1) = c2 l := by
  have e : l = l.take n ++ 32 :: l.drop (n + 1) := by
    conv => lhs; rw [← List.take_append_drop n l]
    congr 1
    rw [List.drop_eq_getElem_cons hn]
    congr 1
    rw [List.getElem?_eq_getElem hn] at h2
    injection h2
  constructor
  · conv => rhs; rw [e]
    rw [c1_at h]
  · conv => rhs; rw [e]
    rw [c2_at h]
theorem c_end {l : List UInt8} {n : Nat} (h : noSp (l.take n)) (hn : l.length ≤ n) : l.take n = c1 l ∧ c2 l = [] := by
  rw [List.take_of_length_le hn] at h ⊢
  exact ⟨(c1_none h).symm, c2_none h⟩
theorem noSp_snoc {l : List UInt8} {n : Nat} (h : noSp (l.take n)) (hn : n < l.length) (h2 : ¬ l[n]? = some 32) : noSp (l.take (n + 1)) := by
  intro x hx
  rw [List.take_add_one, List.getElem?_eq_getElem hn] at hx
  rcases List.mem_append.mp hx with hx | hx
  · exact h x hx
  · simp at hx
    intro e
    apply h2
    rw [List.getElem?_eq_getElem hn, ← hx, e]

theorem idx_str (l : List UInt8) (n : Nat) (hn : n < l.length) : ∃ x : Nat, (∀ W, (Instr.index 9 (.string (mkS l)) (.int .i64 (n : Int))).run Tryd.prog W = .ok (.int .u8 (x : Int)) W) ∧ (x = 32 ↔ l[n]? = some 32) := by
  have hs : n < (mkS l).size := by rw [mkS_size]; exact hn
  refine ⟨((mkS l)[n]'hs).toNat, fun W => ?_, ?_⟩
  · rw [run_index_string W 9 (mkS l) .i64 (n : Int) Tryd.underlying9, dif_pos ⟨by omega, by omega⟩]
    rfl
  · have e : (mkS l)[n]'hs = l[n]'hn := by rfl
    rw [e, List.getElem?_eq_getElem hn]
    constructor
    · intro h
      congr 1
      exact UInt8.toNat_inj.mp h
    · intro h
      injection h with h
      rw [h]; rfl

theorem take_on (l : List UInt8) (n : Nat) (h : n < l.length) (hl : l.length ≤ 140737488355328) : ∃ sx : ByteArray,
    (∀ W, (Instr.slice 9 (.string (mkS l)) (some (.int .i64 (n : Int))) (some (.int .i64 ((n : Int) + 1))) none).run Tryd.prog W = .ok (.string sx) W) ∧
    (∀ W, (Op.stringOp .add (mkS (l.take n)) sx).run Tryd.prog W = .ok (.string (mkS (l.take (n + 1)))) W) := by
  have hs := mkS_size l
  refine ⟨mkS [l[n]], fun W => ?_, fun W => ?_⟩
  · rw [run_slice_string W 9 (mkS l) .i64 .i64 (n : Int) ((n : Int) + 1) Tryd.underlying9 (by omega) (by omega) (by omega)]
    congr 2
    rw [mkS_extract]
    congr 1
    rw [List.drop_eq_getElem_cons (show (n : Int).toNat < l.length by omega)]
    have : ((n : Int) + 1).toNat - (n : Int).toNat = 1 := by omega
    rw [this]
    rfl
  · rw [run_string_add_sum W _ _ (by rw [mkS_size, mkS_size]; simp; omega)]
    congr 2
    apply ByteArray.ext
    simp [ByteArray.data_append]

/-- what lies in memory while the document's Parse goes on -/
structure RQ (w : World) (b0 b1 : Nat) (kk u v : Nat) (W : World) : Prop where
  bel : Below w.heap.size w W
  rb : W.heap[b0]? = some (.cells #[.int .u8 0, .int .u64 0, .int .u64 0] 25 (0, 0))
  sb : W.heap[b1]? = some (.cells #[.int .u8 kk, .int .u64 u, .int .u64 v] 25 (0, 0))
  l0 : w.heap.size ≤ b0
  l1 : b0 < b1
theorem RQ.on {w W W' : World} {b0 b1 kk u v : Nat} (h : RQ w b0 b1 kk u v W) (hb : Below W.heap.size W W') : RQ w b0 b1 kk u v W' :=
  ⟨below_chain h.bel hb, heap_below h.rb hb, heap_below h.sb hb, h.l0, h.l1⟩
theorem heap_set_other {W : World} {b b' i : Nat} {v : Value} (h : b ≠ b') : (W.setCell ⟨b, i, none⟩ v).heap[b']? = W.heap[b']? := Below.heap_setCell _ _ _ _ (by simpa using fun e => h e.symm)
theorem RQ.kind {w W : World} {b0 b1 kk u v : Nat} (h : RQ w b0 b1 kk u v W) (x : Nat) : RQ w b0 b1 x u v (W.setCell ⟨b1, 0, none⟩ (.int .u8 x)) :=
  ⟨h.bel.setCell (by have := h.l0; have := h.l1; simp; omega) _, by rw [heap_set_other (by have := h.l1; omega)]; exact h.rb, set_of h.sb 0 _, h.l0, h.l1⟩
theorem RQ.gen {w W : World} {b0 b1 kk u v : Nat} (h : RQ w b0 b1 kk u v W) (x : Nat) : RQ w b0 b1 kk x v (W.setCell ⟨b1, 1, none⟩ (.int .u64 x)) :=
  ⟨h.bel.setCell (by have := h.l0; have := h.l1; simp; omega) _, by rw [heap_set_other (by have := h.l1; omega)]; exact h.rb, set_of h.sb 1 _, h.l0, h.l1⟩
theorem RQ.stamp {w W : World} {b0 b1 kk u v : Nat} (h : RQ w b0 b1 kk u v W) (x : Nat) : RQ w b0 b1 kk u x (W.setCell ⟨b1, 2, none⟩ (.int .u64 x)) :=
  ⟨h.bel.setCell (by have := h.l0; have := h.l1; simp; omega) _, by rw [heap_set_other (by have := h.l1; omega)]; exact h.rb, set_of h.sb 2 _, h.l0, h.l1⟩

def kb (l : List UInt8) (i : Nat) : Nat := if ktk (c1 l) < i then ktk (c1 l) else 0
theorem kb_hit {l : List UInt8} {i : Nat} (hi : i ≤ 3) (h : ktL i = c1 l) : i = kb l (i + 1) := by
  unfold kb
  rw [← h, ktk_of hi, if_pos (by omega)]
theorem kb_miss {l : List UInt8} {i : Nat} (hi : i ≤ 3) (h : ¬ ktL i = c1 l) : kb l i = kb l (i + 1) := by
  unfold kb
  by_cases c : ktk (c1 l) < i
  · rw [if_pos c, if_pos (by omega)]
  · rw [if_neg c]
    rw [if_neg]
    intro c2
    have e : ktk (c1 l) = i := by omega
    exact h (by rw [← e]; exact (ktk_is (by omega)).symm)
theorem kb_lt (l : List UInt8) : kb l 4 ≤ 3 := by
  unfold kb; split <;> omega
theorem kb_pr {l : List UInt8} {a b c : Nat} (ho : okS a b c) (h : l = prL a b c) : kb l 4 = a := by
  unfold kb
  rw [h, pr_c1, ktk_of ho.1, if_pos (by have := ho.1; omega)]
theorem PRes.no {l : List UInt8} {k g m : Nat} (h : ∀ a b c, okS a b c → l = prL a b c → k = a ∧ g = b ∧ m = c) (hp : ¬ (prT k g m = l ∧ l ≠ [])) : PRes l 0 0 0 52 := by
  refine Or.inr ⟨rfl, rfl, rfl, rfl, fun a b c ho e => hp ?_⟩
  obtain ⟨rfl, rfl, rfl⟩ := h a b c ho e
  exact ⟨by unfold prT; rw [if_pos ho, e], by rw [e]; exact pr_ne _ _ _⟩
theorem fin_none {l : List UInt8} (h : noSp (c2 l)) : ∀ a b c, okS a b c → l = prL a b c → kb l 4 = a ∧ 0 = b ∧ 0 = c := by
  intro a b c ho e
  exfalso
  rw [e, pr_c2] at h
  exact h 32 (by simp) rfl
theorem fin_some {l : List UInt8} {u v : Nat} (hu : Lib.parseUintB 64 (c1 (c2 l)) = .ok u ∨ ∀ x, Lib.parseUintB 64 (c1 (c2 l)) ≠ .ok x) (hv : Lib.parseUintB 64 (c2 (c2 l)) = .ok v ∨ ∀ x, Lib.parseUintB 64 (c2 (c2 l)) ≠ .ok x) :
    ∀ a b c, okS a b c → l = prL a b c → kb l 4 = a ∧ u = b ∧ v = c := by
  intro a b c ho e
  have hg : Lib.parseUintB 64 (c1 (c2 l)) = .ok b := by rw [e, pr_g]; exact pu_dec b (by have := ho.2.1; omega)
  have hm : Lib.parseUintB 64 (c2 (c2 l)) = .ok c := by rw [e, pr_m]; exact pu_dec c (by have := ho.2.2; omega)
  refine ⟨kb_pr ho e, ?_, ?_⟩
  · rcases hu with hu | hu
    · rw [hu] at hg; injection hg
    · exact absurd hg (hu b)
  · rcases hv with hv | hv
    · rw [hv] at hm; injection hm
    · exact absurd hm (hv c)
theorem len_drop_take (l : List UInt8) (n j : Nat) : ((l.drop (n + 1)).take (j - (n + 1)))[0]? = ((l.drop (n + 1)).take (j - (n + 1)))[0]? := rfl
theorem second_at {l : List UInt8} {n j : Nat} (h2 : c2 l = l.drop (n + 1)) (hj : n + 1 ≤ j) (hjl : j < l.length) (hs : noSp ((l.drop (n + 1)).take (j - (n + 1)))) (h32 : l[j]? = some 32) :
    mkS (c1 (c2 l)) = (mkS l).extract (n + 1) j ∧ mkS (c2 (c2 l)) = (mkS l).extract (j + 1) (mkS l).size := by
  have e := c_at hs (by rw [List.length_drop]; omega) (by rw [List.getElem?_drop, show n + 1 + (j - (n + 1)) = j by omega]; exact h32)
  rw [h2, ← e.1, ← e.2, mkS_extract, mkS_extract, mkS_size]
  refine ⟨rfl, ?_⟩
  rw [List.drop_drop, show n + 1 + (j - (n + 1) + 1) = j + 1 by omega, List.take_of_length_le (by rw [List.length_drop]; omega)]
theorem second_none {l : List UInt8} {n j : Nat} (h2 : c2 l = l.drop (n + 1)) (hjl : l.length ≤ j) (hs : noSp ((l.drop (n + 1)).take (j - (n + 1)))) : noSp (c2 l) := by
  rw [h2]
  rw [List.take_of_length_le (by rw [List.length_drop]; omega)] at hs
  exact hs
theorem second_on {l : List UInt8} {n j : Nat} (hj : n + 1 ≤ j) (hjl : j < l.length) (hs : noSp ((l.drop (n + 1)).take (j - (n + 1)))) (h32 : ¬ l[j]? = some 32) : noSp ((l.drop (n + 1)).take (j + 1 - (n + 1))) := by
  rw [show j + 1 - (n + 1) = j - (n + 1) + 1 by omega]
  exact noSp_snoc hs (by rw [List.length_drop]; omega) (by rw [List.getElem?_drop, show n + 1 + (j - (n + 1)) = j by omega]; exact h32)

set_option maxHeartbeats 16000000 in
theorem rparse_any (l : List UInt8) (hl : l.length ≤ 140737488355328) (w : World) (T : Tb w) :
    Calls Tryd.prog 6 #[.string (mkS l)] w fun e w' => (∃ (k g m : Nat) (er : Int), e = .returned (.tuple #[.agg #[.int .u8 k, .int .u64 g, .int .u64 m], .int .i64 er]) ∧ PRes l k g m er) ∧ Below w.heap.size w w' := by
  obtain ⟨w0, hw0⟩ : ∃ w0, w0 = (w.alloc (.cells #[.int .u8 0, .int .u64 0, .int .u64 0] 25)).alloc (.cells #[.int .u8 0, .int .u64 0, .int .u64 0] 25) := ⟨_, rfl⟩
  have R0 : RQ w w.heap.size (w.heap.size + 1) 0 0 0 w0 := by
    rw [hw0]
    refine ⟨below_chain (below_alloc _ _) (below_alloc _ _), heap_below (heap_alloc_new _ _) (below_alloc _ _), ?_, Nat.le_refl _, by omega⟩
    have := heap_alloc_new (w.alloc (.cells #[.int .u8 0, .int .u64 0, .int .u64 0] 25)) (.cells #[.int .u8 0, .int .u64 0, .int .u64 0] 25)
    rw [show (w.alloc (.cells #[.int .u8 0, .int .u64 0, .int .u64 0] 25)).heap.size = w.heap.size + 1 by simp] at this
    exact this
  obtain ⟨s, hs⟩ : ∃ s, s = mkS l := ⟨_, rfl⟩
  have HS := keepH hs
  have hsz : s.size = l.length := by rw [hs, mkS_size]
  have HZ := keepH hsz
  have HT := keepH T
  have HR := keepH R0
  rw [← hs]
  clear hs hsz T R0
  go_enter Tryd.func6, Tryd.ntmps6
  go_upto_region 3 with fail
  rw [← hw0]
  clear hw0
  obtain ⟨b1, hb1⟩ : ∃ b, b = w.heap.size + 1 := ⟨_, rfl⟩
  rw [← hb1] at HR ⊢
  obtain ⟨b0, hb0⟩ : ∃ b, b = w.heap.size := ⟨_, rfl⟩
  rw [show RQ w w.heap.size b1 0 0 0 w0 = RQ w b0 b1 0 0 0 w0 by rw [hb0]] at HR
  rw [← hb0]
  clear hb0 hb1
  go_wp2_with fail
  go_loopw [4, 6] (fun s4 s6 wr => ∃ n : Nat, n ≤ l.length ∧ s4 = .int .i64 (n : Int) ∧ s6 = .string (mkS (l.take n)) ∧ Hid (noSp (l.take n)) ∧ Hid (RQ w b0 b1 0 0 0 wr)) (fun s4 _ _ => l.length - (intOf s4).toNat)
  case atStart => exact ⟨0, by omega, rfl, by simp, keepH (fun x h => by simp at h), HR⟩
  case round =>
    obtain ⟨n, hn, rfl, rfl, HN, HR⟩ := hrel
    by_cases hgo : n < l.length ∧ ¬ l[n]? = some 32
    · obtain ⟨hlt, hne⟩ := hgo
      obtain ⟨x, hx, hx32⟩ := idx_str l n hlt
      rw [← HS.out] at hx
      have q1 : (n : Int) < (s.size : Int) := by have := HZ.out; omega
      have q2 : ((x : Int) == 32) = false := by
        have : x ≠ 32 := fun e => hne (hx32.mp e)
        simp; omega
      have HN2 := keepH (noSp_snoc HN.out hlt hne)
      obtain ⟨sx, hsl, hadd⟩ := take_on l n hlt (by omega)
      rw [← HS.out] at hsl
      have q4 : IntKind.i64.wrap ((n : Int) + 1) = (n : Int) + 1 := by rw [IntKind.wrap_i64]; omega
      obtain ⟨sw, hsw⟩ : ∃ sw, sw = mkS (l.take n) := ⟨_, rfl⟩
      rw [← hsw] at hadd ⊢
      clear hsw hx32 hne
      go_wp2_with fail
      go_roundw
      case rel => exact ⟨n + 1, by omega, by first | rfl | go_num, rfl, HN2, HR⟩
      case measure => simp [intOf]; omega
    · have hx : l.length ≤ n ∨ (n < l.length ∧ l[n]? = some 32) := by
        by_cases c : n < l.length
        · exact Or.inr ⟨c, by by_cases c' : l[n]? = some 32; exact c'; exact absurd ⟨c, c'⟩ hgo⟩
        · exact Or.inl (by omega)
      have HE : Hid (l.take n = c1 l ∧ c2 l = l.drop (n + 1)) := by
        rcases hx with hx | ⟨hlt, h32⟩
        · obtain ⟨e1, e2⟩ := c_end HN.out hx
          exact ⟨e1, by rw [e2, List.drop_of_length_le (by omega)]⟩
        · obtain ⟨e1, e2⟩ := c_at HN.out hlt h32
          exact ⟨e1, e2.symm⟩
      rw [HE.out.1]
      obtain ⟨sK, hsK⟩ : ∃ sK, sK = mkS (c1 l) := ⟨_, rfl⟩
      rw [← hsK]
      have HK := keepH hsK
      clear hsK hgo HN
      have q4 : IntKind.i64.wrap ((n : Int) + 1) = ((n + 1 : Nat) : Int) := by rw [IntKind.wrap_i64]; omega
      rcases hx with hx | ⟨hlt, h32⟩
      · have q1 : ¬ (n : Int) < (s.size : Int) := by have := HZ.out; omega
        clear hx
        go_upto_region 8 with fail
        obtain ⟨w2, hw2⟩ : ∃ w2, w2 = wr.alloc (.cells names4 48) := ⟨_, rfl⟩
        obtain ⟨nb, hnb⟩ : ∃ nb, nb = wr.heap.size := ⟨_, rfl⟩
        have H2 : Hid (RQ w b0 b1 (kb l 0) 0 0 w2 ∧ w2.heap[nb]? = some (.cells names4 48 (0, 0)) ∧ b1 < nb) := by
          rw [hw2, hnb]
          refine ⟨?_, heap_alloc_new _ _, ?_⟩
          · rw [show kb l 0 = 0 by unfold kb; rw [if_neg (by omega)]]
            exact HR.out.on (below_alloc _ _)
          · rcases Nat.lt_or_ge b1 wr.heap.size with c | c
            · exact c
            · have := HR.out.sb; rw [Array.getElem?_eq_none c] at this; simp at this
        rw [← hnb]
        rw [← show w2 = wr.alloc (.cells #[.string ⟨#[102, 114, 101, 101]⟩, .string ⟨#[99, 108, 97, 105, 109, 101, 100]⟩, .string ⟨#[101, 97, 114, 108, 121]⟩, .string ⟨#[101, 120, 97, 99, 116]⟩] 48) from hw2]
        clear hw2 hnb HR q1
        go_wp2_with fail
        go_loopw [8] (fun s8 wQQ => ∃ i : Nat, i ≤ 4 ∧ s8 = .int .i64 (i : Int) ∧ Hid (RQ w b0 b1 (kb l i) 0 0 wQQ ∧ wQQ.heap[nb]? = some (.cells names4 48 (0, 0)) ∧ b1 < nb)) (fun s8 _ => 4 - (intOf s8).toNat)
        case atStart => exact ⟨0, by omega, rfl, H2⟩
        case round =>
          obtain ⟨i, hi, rfl, HI⟩ := hrel
          by_cases hi4 : i < 4
          · have i1 : (i : Int) < 4 := by omega
            have i0 : (0 : Int) ≤ (i : Int) := by omega
            have cN : wr.cell? ⟨nb, i, none⟩ = some (.string (mkS (ktL i))) := by rw [cell_of HI.out.2.1 i]; exact names4_at (by omega)
            obtain ⟨sI, hsI⟩ : ∃ sI, sI = mkS (ktL i) := ⟨_, rfl⟩
            rw [← hsI] at cN
            have wi : IntKind.i64.wrap ((i : Int) + 1) = ((i + 1 : Nat) : Int) := by rw [IntKind.wrap_i64]; omega
            have wu : IntKind.u8.wrap (i : Int) = (i : Int) := by rw [IntKind.wrap_u8]; omega
            by_cases hit : ktL i = c1 l
            · have ce : (sI.toList == sK.toList) = true := by rw [hsI, HK.out, beq_mkS]; simpa using hit
              have c0 := cell_of HI.out.1.sb 0
              have f0 := free_of HI.out.1.sb 0
              have HJ : Hid (RQ w b0 b1 (kb l (i + 1)) 0 0 (wr.setCell ⟨b1, 0, none⟩ (.int .u8 i)) ∧ (wr.setCell ⟨b1, 0, none⟩ (.int .u8 i)).heap[nb]? = some (.cells names4 48 (0, 0)) ∧ b1 < nb) := by
                have e := kb_hit (by omega) hit
                rw [← e]
                exact ⟨HI.out.1.kind i, by rw [heap_set_other (by have := HI.out.2.2; omega)]; exact HI.out.2.1, HI.out.2.2⟩
              obtain ⟨wj, hwj⟩ : ∃ wj, wj = wr.setCell ⟨b1, 0, none⟩ (.int .u8 i) := ⟨_, rfl⟩
              rw [← hwj] at HJ
              have HWJ := keepH hwj
              clear hsI hit HI hwj
              go_wp2_with fail
              rw [← HWJ.out]
              go_roundw
              case rel => exact ⟨i + 1, by omega, by first | rfl | go_num, HJ⟩
              case measure => simp [intOf]; omega
            · have ce : (sI.toList == sK.toList) = false := by rw [hsI, HK.out, beq_mkS]; simpa using hit
              have HJ : Hid (RQ w b0 b1 (kb l (i + 1)) 0 0 wr ∧ wr.heap[nb]? = some (.cells names4 48 (0, 0)) ∧ b1 < nb) := by
                rw [← kb_miss (by omega) hit]
                exact HI.out
              clear hsI hit HI
              go_wp2_with fail
              go_roundw
              case rel => exact ⟨i + 1, by omega, by first | rfl | go_num, HJ⟩
              case measure => simp [intOf]; omega
          · have i1 : ¬ (i : Int) < 4 := by omega
            have HR3 : Hid (RQ w b0 b1 (kb l 4) 0 0 wr) := by
              have := HI.out.1
              rw [show i = 4 by omega] at this
              exact this
            obtain ⟨kk, hkk⟩ : ∃ kk, kk = kb l 4 := ⟨_, rfl⟩
            rw [← hkk] at HR3
            have HKK := keepH hkk
            clear hkk HI H2
            go_wp2_with fail
            clear q4
            go_loopw [9] (fun s9 wVV => ∃ j : Nat, n + 1 ≤ j ∧ j ≤ l.length + 1 ∧ s9 = .int .i64 (j : Int) ∧ Hid (noSp ((l.drop (n + 1)).take (j - (n + 1)))) ∧ Hid (RQ w b0 b1 kk 0 0 wVV)) (fun s9 _ => l.length + 1 - (intOf s9).toNat)
            case atStart => exact ⟨n + 1, by omega, by omega, by first | rfl | go_num, keepH (fun x h => by simp at h), HR3⟩
            case round =>
              obtain ⟨j, hj1, hj2, rfl, HN, HR⟩ := hrel
              by_cases hjl : j < l.length
              · obtain ⟨x, hx, hx32⟩ := idx_str l j hjl
                rw [← HS.out] at hx
                have q1 : (j : Int) < (s.size : Int) := by have := HZ.out; omega
                by_cases h32 : l[j]? = some 32
                · have q2 : x = 32 := hx32.mpr h32
                  subst q2
                  have HP := keepH (second_at HE.out.2 hj1 hjl HN.out h32)
                  rw [← HS.out] at HP
                  clear hx32 h32 HN
                  have q5 : IntKind.i64.wrap ((n : Int) + 1) = (n : Int) + 1 := by rw [IntKind.wrap_i64]; omega
                  have q6 : IntKind.i64.wrap ((j : Int) + 1) = (j : Int) + 1 := by rw [IntKind.wrap_i64]; omega
                  obtain ⟨sG, hsG⟩ : ∃ sG, sG = mkS (c1 (c2 l)) := ⟨_, rfl⟩
                  obtain ⟨sM, hsM⟩ : ∃ sM, sM = mkS (c2 (c2 l)) := ⟨_, rfl⟩
                  have hsl1 : ∀ W, (Instr.slice 9 (.string s) (some (.int .i64 ((n : Int) + 1))) (some (.int .i64 (j : Int))) none).run Tryd.prog W = .ok (.string sG) W := fun W => by
                    rw [run_slice_string W 9 s .i64 .i64 _ _ Tryd.underlying9 (by omega) (by omega) (by omega), hsG, HP.out.1]
                    congr 2
                  have hsl2 : ∀ W, (Instr.slice 9 (.string s) (some (.int .i64 ((j : Int) + 1))) none none).run Tryd.prog W = .ok (.string sM) W := fun W => by
                    rw [run_slice_string_l W 9 s Tryd.underlying9 .i64 _ (by omega) (by omega), hsM, HP.out.2]
                    congr 2
                  have lG : (c1 (c2 l)).length ≤ 281474976710656 := by have := c1_len (c2 l); have := c2_len l; omega
                  have lM : (c2 (c2 l)).length ≤ 281474976710656 := by have := c2_len (c2 l); have := c2_len l; omega
                  have pG := pu_any (c1 (c2 l)) lG
                  have pM := pu_any (c2 (c2 l)) lM
                  rw [← hsG] at pG
                  rw [← hsM] at pM
                  have HpG := keepH pG
                  have HpM := keepH pM
                  clear hsG hsM lG lM pG pM
                  go_wp2_with fail
                  refine (HpG.out wr (HT.out.on HR.out.bel)).mono ?_
                  rintro e w5 ⟨⟨u, eu, hu, rfl, hgu⟩, C5⟩
                  have R5 := HR.out.on C5
                  have g0 := cell_of R5.sb 1
                  have g1 := free_of R5.sb 1
                  have R6 := R5.gen u
                  obtain ⟨w6, hw6⟩ : ∃ w6, w6 = w5.setCell ⟨b1, 1, none⟩ (.int .u64 u) := ⟨_, rfl⟩
                  rw [← hw6] at R6
                  have HR6 := keepH R6
                  have HGU := keepH hgu
                  clear R5 C5 R6 hgu
                  go_upto_region 18 with fail
                  rw [← hw6]
                  clear hw6 g0 g1
                  go_wp2_with fail
                  refine (HpM.out w6 (HT.out.on HR6.out.bel)).mono ?_
                  rintro e w7 ⟨⟨v, ev, hv, rfl, hgv⟩, C7⟩
                  have R7 := HR6.out.on C7
                  have g0 := cell_of R7.sb 2
                  have g1 := free_of R7.sb 2
                  have R8 := R7.stamp v
                  obtain ⟨wz, hwz⟩ : ∃ wz, wz = w7.setCell ⟨b1, 2, none⟩ (.int .u64 v) := ⟨_, rfl⟩
                  rw [← hwz] at R8
                  have HZR := keepH R8
                  have HF : Hid (∀ a b c, okS a b c → l = prL a b c → kk = a ∧ u = b ∧ v = c) := keepH (by rw [HKK.out]; exact fin_some HGU.out hgv)
                  clear R7 C7 R8 hgv
                  go_upto_region 19 with fail
                  rw [← hwz]
                  clear hwz g0 g1
                  have hk4 : kk ≤ 3 := by rw [HKK.out]; exact kb_lt l
                  have a0 := cell_of HZR.out.sb 0
                  have a1 := cell_of HZR.out.sb 1
                  have a2 := cell_of HZR.out.sb 2
                  go_wp2_with fail
                  refine (rprint_any kk u v (by omega) (by omega) (by omega) wz (HT.out.on HZR.out.bel)).mono ?_
                  rintro e wp ⟨rfl, CP⟩
                  have RP := HZR.out.on CP
                  have d0 := cell_of RP.sb 0
                  have d1 := cell_of RP.sb 1
                  have d2 := cell_of RP.sb 2
                  obtain ⟨sp, hsp⟩ : ∃ sp, sp = mkS (prT kk u v) := ⟨_, rfl⟩
                  rw [← hsp]
                  by_cases hp : prT kk u v = l
                  · have c1' : (sp.toList == s.toList) = true := by rw [hsp, HS.out, beq_mkS]; simpa using hp
                    by_cases h0 : l = []
                    · have c2' : (s.toList == []) = true := by rw [HS.out, mkS_toList, h0]; rfl
                      have HPR : Hid (PRes l ((0 : Nat)) 0 0 52) := keepH (PRes.no HF.out (fun hh => hh.2 h0))
                      clear hsp hp h0 a0 a1 a2 CP
                      obtain ⟨q1, q2, q3, q4, q5, q6, q7, q8⟩ := box3 RP.rb RP.bel RP.l0 (.int .u8 0) (.int .u64 0) (.int .u64 0)
                      obtain ⟨wy, hwy⟩ : ∃ wy, wy = ((wp.setCell ⟨b0, 0, none⟩ (.int .u8 0)).setCell ⟨b0, 1, none⟩ (.int .u64 0)).setCell ⟨b0, 2, none⟩ (.int .u64 0) := ⟨_, rfl⟩
                      have HRP := keepH RP
                      clear RP
                      go_wp2_with fail
                      rw [← hwy] at q7 q8 ⊢
                      have y0 := cell_of q7 0
                      have y1 := cell_of q7 1
                      have y2 := cell_of q7 2
                      clear hwy
                      refine bodyPost_ret (v := .tuple #[.agg #[.int .u8 0, .int .u64 0, .int .u64 0], .int .i64 52]) (by simp [results, Tryd.results6, go_sem, y0, y1, y2]) rfl ⟨⟨_, _, _, _, rfl, HPR.out⟩, q8⟩
                    · have c2' : (s.toList == []) = false := by rw [HS.out, mkS_toList]; simpa using h0
                      have HPR : Hid (PRes l kk u v 0) := keepH (PRes.yes hp h0)
                      clear hsp hp h0 a0 a1 a2 CP
                      obtain ⟨q1, q2, q3, q4, q5, q6, q7, q8⟩ := box3 RP.rb RP.bel RP.l0 (.int .u8 kk) (.int .u64 u) (.int .u64 v)
                      obtain ⟨wy, hwy⟩ : ∃ wy, wy = ((wp.setCell ⟨b0, 0, none⟩ (.int .u8 kk)).setCell ⟨b0, 1, none⟩ (.int .u64 u)).setCell ⟨b0, 2, none⟩ (.int .u64 v) := ⟨_, rfl⟩
                      have HRP := keepH RP
                      clear RP
                      go_wp2_with fail
                      rw [← hwy] at q7 q8 ⊢
                      have y0 := cell_of q7 0
                      have y1 := cell_of q7 1
                      have y2 := cell_of q7 2
                      clear hwy
                      refine bodyPost_ret (v := .tuple #[.agg #[.int .u8 kk, .int .u64 u, .int .u64 v], .int .i64 0]) (by simp [results, Tryd.results6, go_sem, y0, y1, y2]) rfl ⟨⟨_, _, _, _, rfl, HPR.out⟩, q8⟩
                  · have c1' : (sp.toList == s.toList) = false := by rw [hsp, HS.out, beq_mkS]; simpa using hp
                    have HPR : Hid (PRes l ((0 : Nat)) 0 0 52) := keepH (PRes.no HF.out (fun hh => hp hh.1))
                    clear hsp hp a0 a1 a2 CP
                    obtain ⟨q1, q2, q3, q4, q5, q6, q7, q8⟩ := box3 RP.rb RP.bel RP.l0 (.int .u8 0) (.int .u64 0) (.int .u64 0)
                    obtain ⟨wy, hwy⟩ : ∃ wy, wy = ((wp.setCell ⟨b0, 0, none⟩ (.int .u8 0)).setCell ⟨b0, 1, none⟩ (.int .u64 0)).setCell ⟨b0, 2, none⟩ (.int .u64 0) := ⟨_, rfl⟩
                    have HRP := keepH RP
                    clear RP
                    go_wp2_with fail
                    rw [← hwy] at q7 q8 ⊢
                    have y0 := cell_of q7 0
                    have y1 := cell_of q7 1
                    have y2 := cell_of q7 2
                    clear hwy
                    refine bodyPost_ret (v := .tuple #[.agg #[.int .u8 0, .int .u64 0, .int .u64 0], .int .i64 52]) (by simp [results, Tryd.results6, go_sem, y0, y1, y2]) rfl ⟨⟨_, _, _, _, rfl, HPR.out⟩, q8⟩
                · have q2 : ((x : Int) == 32) = false := by
                    have : x ≠ 32 := fun e => h32 (hx32.mp e)
                    simp; omega
                  have q6 : IntKind.i64.wrap ((j : Int) + 1) = ((j + 1 : Nat) : Int) := by rw [IntKind.wrap_i64]; omega
                  have HN2 := keepH (second_on hj1 hjl HN.out h32)
                  clear hx32 h32
                  go_wp2_with fail
                  go_roundw
                  case rel => exact ⟨j + 1, by omega, by omega, by first | rfl | go_num, HN2, HR⟩
                  case measure => simp [intOf]; omega
              · have q1 : ¬ (j : Int) < (s.size : Int) := by have := HZ.out; omega
                have HF : Hid (∀ a b c, okS a b c → l = prL a b c → kk = a ∧ 0 = b ∧ 0 = c) := keepH (by rw [HKK.out]; exact fin_none (second_none HE.out.2 (by omega) HN.out))
                have hk4 : kk ≤ 3 := by rw [HKK.out]; exact kb_lt l
                have a0 := cell_of HR.out.sb 0
                have a1 := cell_of HR.out.sb 1
                have a2 := cell_of HR.out.sb 2
                go_wp2_with fail
                refine (rprint_any kk 0 0 (by omega) (by omega) (by omega) wr (HT.out.on HR.out.bel)).mono ?_
                rintro e wp ⟨rfl, CP⟩
                have RP := HR.out.on CP
                have d0 := cell_of RP.sb 0
                have d1 := cell_of RP.sb 1
                have d2 := cell_of RP.sb 2
                obtain ⟨sp, hsp⟩ : ∃ sp, sp = mkS (prT kk 0 0) := ⟨_, rfl⟩
                rw [← hsp]
                by_cases hp : prT kk 0 0 = l
                · have c1' : (sp.toList == s.toList) = true := by rw [hsp, HS.out, beq_mkS]; simpa using hp
                  by_cases h0 : l = []
                  · have c2' : (s.toList == []) = true := by rw [HS.out, mkS_toList, h0]; rfl
                    have HPR : Hid (PRes l ((0 : Nat)) 0 0 52) := keepH (PRes.no HF.out (fun hh => hh.2 h0))
                    clear hsp hp h0 a0 a1 a2 CP
                    obtain ⟨q1, q2, q3, q4, q5, q6, q7, q8⟩ := box3 RP.rb RP.bel RP.l0 (.int .u8 0) (.int .u64 0) (.int .u64 0)
                    obtain ⟨wy, hwy⟩ : ∃ wy, wy = ((wp.setCell ⟨b0, 0, none⟩ (.int .u8 0)).setCell ⟨b0, 1, none⟩ (.int .u64 0)).setCell ⟨b0, 2, none⟩ (.int .u64 0) := ⟨_, rfl⟩
                    have HRP := keepH RP
                    clear RP
                    go_wp2_with fail
                    rw [← hwy] at q7 q8 ⊢
                    have y0 := cell_of q7 0
                    have y1 := cell_of q7 1
                    have y2 := cell_of q7 2
                    clear hwy
                    refine bodyPost_ret (v := .tuple #[.agg #[.int .u8 0, .int .u64 0, .int .u64 0], .int .i64 52]) (by simp [results, Tryd.results6, go_sem, y0, y1, y2]) rfl ⟨⟨_, _, _, _, rfl, HPR.out⟩, q8⟩
                  · have c2' : (s.toList == []) = false := by rw [HS.out, mkS_toList]; simpa using h0
                    have HPR : Hid (PRes l kk 0 0 0) := keepH (PRes.yes hp h0)
                    clear hsp hp h0 a0 a1 a2 CP
                    obtain ⟨q1, q2, q3, q4, q5, q6, q7, q8⟩ := box3 RP.rb RP.bel RP.l0 (.int .u8 kk) (.int .u64 0) (.int .u64 0)
                    obtain ⟨wy, hwy⟩ : ∃ wy, wy = ((wp.setCell ⟨b0, 0, none⟩ (.int .u8 kk)).setCell ⟨b0, 1, none⟩ (.int .u64 0)).setCell ⟨b0, 2, none⟩ (.int .u64 0) := ⟨_, rfl⟩
                    have HRP := keepH RP
                    clear RP
                    go_wp2_with fail
                    rw [← hwy] at q7 q8 ⊢
                    have y0 := cell_of q7 0
                    have y1 := cell_of q7 1
                    have y2 := cell_of q7 2
                    clear hwy
                    refine bodyPost_ret (v := .tuple #[.agg #[.int .u8 kk, .int .u64 0, .int .u64 0], .int .i64 0]) (by simp [results, Tryd.results6, go_sem, y0, y1, y2]) rfl ⟨⟨_, _, _, _, rfl, HPR.out⟩, q8⟩
                · have c1' : (sp.toList == s.toList) = false := by rw [hsp, HS.out, beq_mkS]; simpa using hp
                  have HPR : Hid (PRes l ((0 : Nat)) 0 0 52) := keepH (PRes.no HF.out (fun hh => hp hh.1))
                  clear hsp hp a0 a1 a2 CP
                  obtain ⟨q1, q2, q3, q4, q5, q6, q7, q8⟩ := box3 RP.rb RP.bel RP.l0 (.int .u8 0) (.int .u64 0) (.int .u64 0)
                  obtain ⟨wy, hwy⟩ : ∃ wy, wy = ((wp.setCell ⟨b0, 0, none⟩ (.int .u8 0)).setCell ⟨b0, 1, none⟩ (.int .u64 0)).setCell ⟨b0, 2, none⟩ (.int .u64 0) := ⟨_, rfl⟩
                  have HRP := keepH RP
                  clear RP
                  go_wp2_with fail
                  rw [← hwy] at q7 q8 ⊢
                  have y0 := cell_of q7 0
                  have y1 := cell_of q7 1
                  have y2 := cell_of q7 2
                  clear hwy
                  refine bodyPost_ret (v := .tuple #[.agg #[.int .u8 0, .int .u64 0, .int .u64 0], .int .i64 52]) (by simp [results, Tryd.results6, go_sem, y0, y1, y2]) rfl ⟨⟨_, _, _, _, rfl, HPR.out⟩, q8⟩
      · obtain ⟨x, hx, hx32⟩ := idx_str l n hlt
        rw [← HS.out] at hx
        have q1 : (n : Int) < (s.size : Int) := by have := HZ.out; omega
        have q2 : x = 32 := hx32.mpr h32
        subst q2
        clear hx32 h32 hlt
        go_upto_region 8 with fail
        obtain ⟨w2, hw2⟩ : ∃ w2, w2 = wr.alloc (.cells names4 48) := ⟨_, rfl⟩
        obtain ⟨nb, hnb⟩ : ∃ nb, nb = wr.heap.size := ⟨_, rfl⟩
        have H2 : Hid (RQ w b0 b1 (kb l 0) 0 0 w2 ∧ w2.heap[nb]? = some (.cells names4 48 (0, 0)) ∧ b1 < nb) := by
          rw [hw2, hnb]
          refine ⟨?_, heap_alloc_new _ _, ?_⟩
          · rw [show kb l 0 = 0 by unfold kb; rw [if_neg (by omega)]]
            exact HR.out.on (below_alloc _ _)
          · rcases Nat.lt_or_ge b1 wr.heap.size with c | c
            · exact c
            · have := HR.out.sb; rw [Array.getElem?_eq_none c] at this; simp at this
        rw [← hnb]
        rw [← show w2 = wr.alloc (.cells #[.string ⟨#[102, 114, 101, 101]⟩, .string ⟨#[99, 108, 97, 105, 109, 101, 100]⟩, .string ⟨#[101, 97, 114, 108, 121]⟩, .string ⟨#[101, 120, 97, 99, 116]⟩] 48) from hw2]
        clear hw2 hnb HR q1
        go_wp2_with fail
        go_loopw [8] (fun s8 wQQ => ∃ i : Nat, i ≤ 4 ∧ s8 = .int .i64 (i : Int) ∧ Hid (RQ w b0 b1 (kb l i) 0 0 wQQ ∧ wQQ.heap[nb]? = some (.cells names4 48 (0, 0)) ∧ b1 < nb)) (fun s8 _ => 4 - (intOf s8).toNat)
        case atStart => exact ⟨0, by omega, rfl, H2⟩
        case round =>
          obtain ⟨i, hi, rfl, HI⟩ := hrel
          by_cases hi4 : i < 4
          · have i1 : (i : Int) < 4 := by omega
            have i0 : (0 : Int) ≤ (i : Int) := by omega
            have cN : wr.cell? ⟨nb, i, none⟩ = some (.string (mkS (ktL i))) := by rw [cell_of HI.out.2.1 i]; exact names4_at (by omega)
            obtain ⟨sI, hsI⟩ : ∃ sI, sI = mkS (ktL i) := ⟨_, rfl⟩
            rw [← hsI] at cN
            have wi : IntKind.i64.wrap ((i : Int) + 1) = ((i + 1 : Nat) : Int) := by rw [IntKind.wrap_i64]; omega
            have wu : IntKind.u8.wrap (i : Int) = (i : Int) := by rw [IntKind.wrap_u8]; omega
            by_cases hit : ktL i = c1 l
            · have ce : (sI.toList == sK.toList) = true := by rw [hsI, HK.out, beq_mkS]; simpa using hit
              have c0 := cell_of HI.out.1.sb 0
              have f0 := free_of HI.out.1.sb 0
              have HJ : Hid (RQ w b0 b1 (kb l (i + 1)) 0 0 (wr.setCell ⟨b1, 0, none⟩ (.int .u8 i)) ∧ (wr.setCell ⟨b1, 0, none⟩ (.int .u8 i)).heap[nb]? = some (.cells names4 48 (0, 0)) ∧ b1 < nb) := by
                have e := kb_hit (by omega) hit
                rw [← e]
                exact ⟨HI.out.1.kind i, by rw [heap_set_other (by have := HI.out.2.2; omega)]; exact HI.out.2.1, HI.out.2.2⟩
              obtain ⟨wj, hwj⟩ : ∃ wj, wj = wr.setCell ⟨b1, 0, none⟩ (.int .u8 i) := ⟨_, rfl⟩
              rw [← hwj] at HJ
              have HWJ := keepH hwj
              clear hsI hit HI hwj
              go_wp2_with fail
              rw [← HWJ.out]
              go_roundw
              case rel => exact ⟨i + 1, by omega, by first | rfl | go_num, HJ⟩
              case measure => simp [intOf]; omega
            · have ce : (sI.toList == sK.toList) = false := by rw [hsI, HK.out, beq_mkS]; simpa using hit
              have HJ : Hid (RQ w b0 b1 (kb l (i + 1)) 0 0 wr ∧ wr.heap[nb]? = some (.cells names4 48 (0, 0)) ∧ b1 < nb) := by
                rw [← kb_miss (by omega) hit]
                exact HI.out
              clear hsI hit HI
              go_wp2_with fail
              go_roundw
              case rel => exact ⟨i + 1, by omega, by first | rfl | go_num, HJ⟩
              case measure => simp [intOf]; omega
          · have i1 : ¬ (i : Int) < 4 := by omega
            have HR3 : Hid (RQ w b0 b1 (kb l 4) 0 0 wr) := by
              have := HI.out.1
              rw [show i = 4 by omega] at this
              exact this
            obtain ⟨kk, hkk⟩ : ∃ kk, kk = kb l 4 := ⟨_, rfl⟩
            rw [← hkk] at HR3
            have HKK := keepH hkk
            clear hkk HI H2
            go_wp2_with fail
            clear q4
            go_loopw [9] (fun s9 wVV => ∃ j : Nat, n + 1 ≤ j ∧ j ≤ l.length + 1 ∧ s9 = .int .i64 (j : Int) ∧ Hid (noSp ((l.drop (n + 1)).take (j - (n + 1)))) ∧ Hid (RQ w b0 b1 kk 0 0 wVV)) (fun s9 _ => l.length + 1 - (intOf s9).toNat)
            case atStart => exact ⟨n + 1, by omega, by omega, by first | rfl | go_num, keepH (fun x h => by simp at h), HR3⟩
            case round =>
              obtain ⟨j, hj1, hj2, rfl, HN, HR⟩ := hrel
              by_cases hjl : j < l.length
              · obtain ⟨x, hx, hx32⟩ := idx_str l j hjl
                rw [← HS.out] at hx
                have q1 : (j : Int) < (s.size : Int) := by have := HZ.out; omega
                by_cases h32 : l[j]? = some 32
                · have q2 : x = 32 := hx32.mpr h32
                  subst q2
                  have HP := keepH (second_at HE.out.2 hj1 hjl HN.out h32)
                  rw [← HS.out] at HP
                  clear hx32 h32 HN
                  have q5 : IntKind.i64.wrap ((n : Int) + 1) = (n : Int) + 1 := by rw [IntKind.wrap_i64]; omega
                  have q6 : IntKind.i64.wrap ((j : Int) + 1) = (j : Int) + 1 := by rw [IntKind.wrap_i64]; omega
                  obtain ⟨sG, hsG⟩ : ∃ sG, sG = mkS (c1 (c2 l)) := ⟨_, rfl⟩
                  obtain ⟨sM, hsM⟩ : ∃ sM, sM = mkS (c2 (c2 l)) := ⟨_, rfl⟩
                  have hsl1 : ∀ W, (Instr.slice 9 (.string s) (some (.int .i64 ((n : Int) + 1))) (some (.int .i64 (j : Int))) none).run Tryd.prog W = .ok (.string sG) W := fun W => by
                    rw [run_slice_string W 9 s .i64 .i64 _ _ Tryd.underlying9 (by omega) (by omega) (by omega), hsG, HP.out.1]
                    congr 2
                  have hsl2 : ∀ W, (Instr.slice 9 (.string s) (some (.int .i64 ((j : Int) + 1))) none none).run Tryd.prog W = .ok (.string sM) W := fun W => by
                    rw [run_slice_string_l W 9 s Tryd.underlying9 .i64 _ (by omega) (by omega), hsM, HP.out.2]
                    congr 2
                  have lG : (c1 (c2 l)).length ≤ 281474976710656 := by have := c1_len (c2 l); have := c2_len l; omega
                  have lM : (c2 (c2 l)).length ≤ 281474976710656 := by have := c2_len (c2 l); have := c2_len l; omega
                  have pG := pu_any (c1 (c2 l)) lG
                  have pM := pu_any (c2 (c2 l)) lM
                  rw [← hsG] at pG
                  rw [← hsM] at pM
                  have HpG := keepH pG
                  have HpM := keepH pM
                  clear hsG hsM lG lM pG pM
                  go_wp2_with fail
                  refine (HpG.out wr (HT.out.on HR.out.bel)).mono ?_
                  rintro e w5 ⟨⟨u, eu, hu, rfl, hgu⟩, C5⟩
                  have R5 := HR.out.on C5
                  have g0 := cell_of R5.sb 1
                  have g1 := free_of R5.sb 1
                  have R6 := R5.gen u
                  obtain ⟨w6, hw6⟩ : ∃ w6, w6 = w5.setCell ⟨b1, 1, none⟩ (.int .u64 u) := ⟨_, rfl⟩
                  rw [← hw6] at R6
                  have HR6 := keepH R6
                  have HGU := keepH hgu
                  clear R5 C5 R6 hgu
                  go_upto_region 18 with fail
                  rw [← hw6]
                  clear hw6 g0 g1
                  go_wp2_with fail
                  refine (HpM.out w6 (HT.out.on HR6.out.bel)).mono ?_
                  rintro e w7 ⟨⟨v, ev, hv, rfl, hgv⟩, C7⟩
                  have R7 := HR6.out.on C7
                  have g0 := cell_of R7.sb 2
                  have g1 := free_of R7.sb 2
                  have R8 := R7.stamp v
                  obtain ⟨wz, hwz⟩ : ∃ wz, wz = w7.setCell ⟨b1, 2, none⟩ (.int .u64 v) := ⟨_, rfl⟩
                  rw [← hwz] at R8
                  have HZR := keepH R8
                  have HF : Hid (∀ a b c, okS a b c → l = prL a b c → kk = a ∧ u = b ∧ v = c) := keepH (by rw [HKK.out]; exact fin_some HGU.out hgv)
                  clear R7 C7 R8 hgv
                  go_upto_region 19 with fail
                  rw [← hwz]
                  clear hwz g0 g1
                  have hk4 : kk ≤ 3 := by rw [HKK.out]; exact kb_lt l
                  have a0 := cell_of HZR.out.sb 0
                  have a1 := cell_of HZR.out.sb 1
                  have a2 := cell_of HZR.out.sb 2
                  go_wp2_with fail
                  refine (rprint_any kk u v (by omega) (by omega) (by omega) wz (HT.out.on HZR.out.bel)).mono ?_
                  rintro e wp ⟨rfl, CP⟩
                  have RP := HZR.out.on CP
                  have d0 := cell_of RP.sb 0
                  have d1 := cell_of RP.sb 1
                  have d2 := cell_of RP.sb 2
                  obtain ⟨sp, hsp⟩ : ∃ sp, sp = mkS (prT kk u v) := ⟨_, rfl⟩
                  rw [← hsp]
                  by_cases hp : prT kk u v = l
                  · have c1' : (sp.toList == s.toList) = true := by rw [hsp, HS.out, beq_mkS]; simpa using hp
                    by_cases h0 : l = []
                    · have c2' : (s.toList == []) = true := by rw [HS.out, mkS_toList, h0]; rfl
                      have HPR : Hid (PRes l ((0 : Nat)) 0 0 52) := keepH (PRes.no HF.out (fun hh => hh.2 h0))
                      clear hsp hp h0 a0 a1 a2 CP
                      obtain ⟨q1, q2, q3, q4, q5, q6, q7, q8⟩ := box3 RP.rb RP.bel RP.l0 (.int .u8 0) (.int .u64 0) (.int .u64 0)
                      obtain ⟨wy, hwy⟩ : ∃ wy, wy = ((wp.setCell ⟨b0, 0, none⟩ (.int .u8 0)).setCell ⟨b0, 1, none⟩ (.int .u64 0)).setCell ⟨b0, 2, none⟩ (.int .u64 0) := ⟨_, rfl⟩
                      have HRP := keepH RP
                      clear RP
                      go_wp2_with fail
                      rw [← hwy] at q7 q8 ⊢
                      have y0 := cell_of q7 0
                      have y1 := cell_of q7 1
                      have y2 := cell_of q7 2
                      clear hwy
                      refine bodyPost_ret (v := .tuple #[.agg #[.int .u8 0, .int .u64 0, .int .u64 0], .int .i64 52]) (by simp [results, Tryd.results6, go_sem, y0, y1, y2]) rfl ⟨⟨_, _, _, _, rfl, HPR.out⟩, q8⟩
                    · have c2' : (s.toList == []) = false := by rw [HS.out, mkS_toList]; simpa using h0
                      have HPR : Hid (PRes l kk u v 0) := keepH (PRes.yes hp h0)
                      clear hsp hp h0 a0 a1 a2 CP
                      obtain ⟨q1, q2, q3, q4, q5, q6, q7, q8⟩ := box3 RP.rb RP.bel RP.l0 (.int .u8 kk) (.int .u64 u) (.int .u64 v)
                      obtain ⟨wy, hwy⟩ : ∃ wy, wy = ((wp.setCell ⟨b0, 0, none⟩ (.int .u8 kk)).setCell ⟨b0, 1, none⟩ (.int .u64 u)).setCell ⟨b0, 2, none⟩ (.int .u64 v) := ⟨_, rfl⟩
                      have HRP := keepH RP
                      clear RP
                      go_wp2_with fail
                      rw [← hwy] at q7 q8 ⊢
                      have y0 := cell_of q7 0
                      have y1 := cell_of q7 1
                      have y2 := cell_of q7 2
                      clear hwy
                      refine bodyPost_ret (v := .tuple #[.agg #[.int .u8 kk, .int .u64 u, .int .u64 v], .int .i64 0]) (by simp [results, Tryd.results6, go_sem, y0, y1, y2]) rfl ⟨⟨_, _, _, _, rfl, HPR.out⟩, q8⟩
                  · have c1' : (sp.toList == s.toList) = false := by rw [hsp, HS.out, beq_mkS]; simpa using hp
                    have HPR : Hid (PRes l ((0 : Nat)) 0 0 52) := keepH (PRes.no HF.out (fun hh => hp hh.1))
                    clear hsp hp a0 a1 a2 CP
                    obtain ⟨q1, q2, q3, q4, q5, q6, q7, q8⟩ := box3 RP.rb RP.bel RP.l0 (.int .u8 0) (.int .u64 0) (.int .u64 0)
                    obtain ⟨wy, hwy⟩ : ∃ wy, wy = ((wp.setCell ⟨b0, 0, none⟩ (.int .u8 0)).setCell ⟨b0, 1, none⟩ (.int .u64 0)).setCell ⟨b0, 2, none⟩ (.int .u64 0) := ⟨_, rfl⟩
                    have HRP := keepH RP
                    clear RP
                    go_wp2_with fail
                    rw [← hwy] at q7 q8 ⊢
                    have y0 := cell_of q7 0
                    have y1 := cell_of q7 1
                    have y2 := cell_of q7 2
                    clear hwy
                    refine bodyPost_ret (v := .tuple #[.agg #[.int .u8 0, .int .u64 0, .int .u64 0], .int .i64 52]) (by simp [results, Tryd.results6, go_sem, y0, y1, y2]) rfl ⟨⟨_, _, _, _, rfl, HPR.out⟩, q8⟩
                · have q2 : ((x : Int) == 32) = false := by
                    have : x ≠ 32 := fun e => h32 (hx32.mp e)
                    simp; omega
                  have q6 : IntKind.i64.wrap ((j : Int) + 1) = ((j + 1 : Nat) : Int) := by rw [IntKind.wrap_i64]; omega
                  have HN2 := keepH (second_on hj1 hjl HN.out h32)
                  clear hx32 h32
                  go_wp2_with fail
                  go_roundw
                  case rel => exact ⟨j + 1, by omega, by omega, by first | rfl | go_num, HN2, HR⟩
                  case measure => simp [intOf]; omega
              · have q1 : ¬ (j : Int) < (s.size : Int) := by have := HZ.out; omega
                have HF : Hid (∀ a b c, okS a b c → l = prL a b c → kk = a ∧ 0 = b ∧ 0 = c) := keepH (by rw [HKK.out]; exact fin_none (second_none HE.out.2 (by omega) HN.out))
                have hk4 : kk ≤ 3 := by rw [HKK.out]; exact kb_lt l
                have a0 := cell_of HR.out.sb 0
                have a1 := cell_of HR.out.sb 1
                have a2 := cell_of HR.out.sb 2
                go_wp2_with fail
                refine (rprint_any kk 0 0 (by omega) (by omega) (by omega) wr (HT.out.on HR.out.bel)).mono ?_
                rintro e wp ⟨rfl, CP⟩
                have RP := HR.out.on CP
                have d0 := cell_of RP.sb 0
                have d1 := cell_of RP.sb 1
                have d2 := cell_of RP.sb 2
                obtain ⟨sp, hsp⟩ : ∃ sp, sp = mkS (prT kk 0 0) := ⟨_, rfl⟩
                rw [← hsp]
                by_cases hp : prT kk 0 0 = l
                · have c1' : (sp.toList == s.toList) = true := by rw [hsp, HS.out, beq_mkS]; simpa using hp
                  by_cases h0 : l = []
                  · have c2' : (s.toList == []) = true := by rw [HS.out, mkS_toList, h0]; rfl
                    have HPR : Hid (PRes l ((0 : Nat)) 0 0 52) := keepH (PRes.no HF.out (fun hh => hh.2 h0))
                    clear hsp hp h0 a0 a1 a2 CP
                    obtain ⟨q1, q2, q3, q4, q5, q6, q7, q8⟩ := box3 RP.rb RP.bel RP.l0 (.int .u8 0) (.int .u64 0) (.int .u64 0)
                    obtain ⟨wy, hwy⟩ : ∃ wy, wy = ((wp.setCell ⟨b0, 0, none⟩ (.int .u8 0)).setCell ⟨b0, 1, none⟩ (.int .u64 0)).setCell ⟨b0, 2, none⟩ (.int .u64 0) := ⟨_, rfl⟩
                    have HRP := keepH RP
                    clear RP
                    go_wp2_with fail
                    rw [← hwy] at q7 q8 ⊢
                    have y0 := cell_of q7 0
                    have y1 := cell_of q7 1
                    have y2 := cell_of q7 2
                    clear hwy
                    refine bodyPost_ret (v := .tuple #[.agg #[.int .u8 0, .int .u64 0, .int .u64 0], .int .i64 52]) (by simp [results, Tryd.results6, go_sem, y0, y1, y2]) rfl ⟨⟨_, _, _, _, rfl, HPR.out⟩, q8⟩
                  · have c2' : (s.toList == []) = false := by rw [HS.out, mkS_toList]; simpa using h0
                    have HPR : Hid (PRes l kk 0 0 0) := keepH (PRes.yes hp h0)
                    clear hsp hp h0 a0 a1 a2 CP
                    obtain ⟨q1, q2, q3, q4, q5, q6, q7, q8⟩ := box3 RP.rb RP.bel RP.l0 (.int .u8 kk) (.int .u64 0) (.int .u64 0)
                    obtain ⟨wy, hwy⟩ : ∃ wy, wy = ((wp.setCell ⟨b0, 0, none⟩ (.int .u8 kk)).setCell ⟨b0, 1, none⟩ (.int .u64 0)).setCell ⟨b0, 2, none⟩ (.int .u64 0) := ⟨_, rfl⟩
                    have HRP := keepH RP
                    clear RP
                    go_wp2_with fail
                    rw [← hwy] at q7 q8 ⊢
                    have y0 := cell_of q7 0
                    have y1 := cell_of q7 1
                    have y2 := cell_of q7 2
                    clear hwy
                    refine bodyPost_ret (v := .tuple #[.agg #[.int .u8 kk, .int .u64 0, .int .u64 0], .int .i64 0]) (by simp [results, Tryd.results6, go_sem, y0, y1, y2]) rfl ⟨⟨_, _, _, _, rfl, HPR.out⟩, q8⟩
                · have c1' : (sp.toList == s.toList) = false := by rw [hsp, HS.out, beq_mkS]; simpa using hp
                  have HPR : Hid (PRes l ((0 : Nat)) 0 0 52) := keepH (PRes.no HF.out (fun hh => hp hh.1))
                  clear hsp hp a0 a1 a2 CP
                  obtain ⟨q1, q2, q3, q4, q5, q6, q7, q8⟩ := box3 RP.rb RP.bel RP.l0 (.int .u8 0) (.int .u64 0) (.int .u64 0)
                  obtain ⟨wy, hwy⟩ : ∃ wy, wy = ((wp.setCell ⟨b0, 0, none⟩ (.int .u8 0)).setCell ⟨b0, 1, none⟩ (.int .u64 0)).setCell ⟨b0, 2, none⟩ (.int .u64 0) := ⟨_, rfl⟩
                  have HRP := keepH RP
                  clear RP
                  go_wp2_with fail
                  rw [← hwy] at q7 q8 ⊢
                  have y0 := cell_of q7 0
                  have y1 := cell_of q7 1
                  have y2 := cell_of q7 2
                  clear hwy
                  refine bodyPost_ret (v := .tuple #[.agg #[.int .u8 0, .int .u64 0, .int .u64 0], .int .i64 52]) (by simp [results, Tryd.results6, go_sem, y0, y1, y2]) rfl ⟨⟨_, _, _, _, rfl, HPR.out⟩, q8⟩
end Go.Proofs.YtoldkjlcfgpnoaaDoor
