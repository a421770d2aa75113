/- The picks of a line, by the document. -/
import Derived.Test.YtmmaniolaljjlaaGreatDoorP14Sfb
import Derived.Test.YtmmaniolaljjlaaGreatDoorP16Sdh
import Derived.Test.YtmmaniolaljjlaaGreatDoorP15Scr
namespace Go.Proofs.YtmmaniolaljjlaaGreatDoor
open Go.RowKit Go.Shelf
set_option linter.unusedVariables false

def AtsQ (fs : List (List UInt8)) (l : List Int) : Prop := l.length = fs.length ∧ (∀ z ∈ l, isI z) ∧ ∀ (i : Nat) (f : List UInt8) (x z : Int), fs[i]? = some f → l[i]? = some x → Lib.atoiAll f = .ok z → x = z
theorem AtsQ.more {fs : List (List UInt8)} {l : List Int} {i : Nat} {f : List UInt8} {x : Int} (h : AtsQ (fs.take i) l) (hf : fs[i]? = some f) (hx : isI x) (hz : ∀ z, Lib.atoiAll f = .ok z → x = z) : AtsQ (fs.take (i + 1)) (l ++ [x]) := by
  have hi := (List.getElem?_eq_some_iff.1 hf).1
  have hl : l.length = i := by rw [h.1, List.length_take]; omega
  refine ⟨by rw [List.length_append, h.1, List.take_add_one, hf]; simp, fun z hz' => ?_, fun j f' y z h1 h2 h3 => ?_⟩
  · rcases List.mem_append.1 hz' with h' | h'
    · exact h.2.1 z h'
    · simp at h'; subst h'; exact hx
  · rw [List.take_add_one, hf] at h1
    have hil : (fs.take i).length = i := by rw [← h.1, hl]
    by_cases hj : j < i
    · rw [List.getElem?_append_left (by omega)] at h1
      rw [List.getElem?_append_left (by omega)] at h2
      exact h.2.2 j f' y z h1 h2 h3
    · rw [List.getElem?_append_right (by omega), hil] at h1
      rw [List.getElem?_append_right (by omega), hl] at h2
      have hj0 : j - i = 0 := by
        have := (List.getElem?_eq_some_iff.1 h2).1
        simp at this
        exact this
      rw [hj0] at h1 h2
      simp at h1 h2
      subst h1 h2
      exact hz z h3
theorem AtsQ.itoa {l l' : List Int} (h : AtsQ (l'.map Lib.itoa) l) (h' : ∀ z ∈ l', isI z) : l = l' := by
  apply List.ext_getElem
  · rw [h.1, List.length_map]
  · intro i h1 h2
    have hz := h' _ (List.getElem_mem h2)
    exact h.2.2 i _ _ _ (by rw [List.getElem?_map, List.getElem?_eq_getElem h2]; rfl) (List.getElem?_eq_getElem h1) (atoi_itoa _ hz.1 hz.2)
def PkQ (t : List UInt8) (ok : Bool) (l : List Int) : Prop := (ok = true → 1 ≤ l.length ∧ l.length ≤ 20 ∧ (∀ z ∈ l, isI z) ∧ t = pkT l) ∧ ∀ l', 1 ≤ l'.length → l'.length ≤ 20 → (∀ z ∈ l', isI z) → t = pkT l' → ok = true ∧ l = l'
def PkR (W : World) (t : List UInt8) (e : Ending) (W' : World) : Prop := ∃ l v ok, e = .returned (.tuple #[v, .bool ok]) ∧ StZ W l v W' ∧ PkQ t ok l
theorem pkq_of {t f0 : List UInt8} {r0 : List (List UInt8)} {l : List Int} {ok : Bool} (hs : Lib.split t [32] = f0 :: r0) (hq : AtsQ r0 l) (hok : ok = true ↔ (1 ≤ l.length ∧ l.length ≤ 20 ∧ pkT l = t)) : PkQ t ok l := by
  refine ⟨fun h => ?_, fun l' h1 h2 h3 h4 => ?_⟩
  · obtain ⟨a, b, c⟩ := hok.1 h
    exact ⟨a, b, hq.2.1, c.symm⟩
  · have e : f0 :: r0 = pkL l' := by rw [← hs, h4, pkT_split]
    simp only [pkL, List.cons.injEq] at e
    rw [e.2] at hq
    have := hq.itoa h3
    subst this
    exact ⟨hok.2 ⟨h1, h2, h4.symm⟩, rfl⟩
theorem stz_form {W X : World} {l : List Int} {v : Value} (h : StZ W l v X) : ∃ lp lc, v = .slice lp l.length lc ∧ IRd X lp l := by
  have hl := fun k hk => row_lt h.row k hk
  have hc := fun g (hg : v.ownBlock = some g) => h.row.cells (g := g) hg
  rcases h.row.2 with ⟨hv, h0⟩ | ⟨g, cap, cur, hv, _⟩
  · exact ⟨none, 0, by rw [hv, h0], .inl (List.eq_nil_of_length_eq_zero h0)⟩
  · refine ⟨_, cap, hv, .inr ⟨g, 0, rfl, hl g (by rw [hv]; rfl), fun i x hx => ?_⟩⟩
    have := hc g (by rw [hv]; rfl) i (.int .i64 x) (by unfold zRow; rw [List.getElem?_map, hx]; rfl)
    rw [Addr.add_mid] at this
    exact this
theorem rowI_st {W wr : World} {g m cap : Nat} {ls : List (List UInt8)} (h : RowI W wr (.slice (some ⟨g, 0, none⟩) m cap) ls) (hm : ls.length = m) {i : Nat} {f : List UInt8} (hf : ls[i]? = some f) : wr.cell? ⟨g, i, none⟩ = some (.string (mkS f)) := by
  have h0 := h.row
  rw [hm] at h0
  have hlt := (List.getElem?_eq_some_iff.1 hf).1
  rw [World.ownsRow.cellAt h0 i (by omega)]
  simp [strsRow, hf]
set_option maxRecDepth 100000 in
set_option maxHeartbeats 4000000 in
theorem dPicked_any (t : List UInt8) (ht : t.length ≤ 5000000) (W : World) (T : Tb W) :
    Calls Tryz.prog 93 #[.string (mkS t)] W (PkR W t) := by
  obtain ⟨i0, hi0, hz0, hz1, hz2⟩ := info_parts infoZ
  have HI := keepH hi0
  have hwd := r_words t (by omega) W
  obtain ⟨s, hs⟩ : ∃ s, s = mkS t := ⟨_, rfl⟩
  rw [← hs] at hwd ⊢
  have HS := keepH hs
  have HT := keepH T
  have HTL := keepH ht
  clear hi0 hs T ht
  go_enter Tryz.func93, Tryz.ntmps93
  go_wp2_with fail
  refine hwd.mono ?_
  rintro e w2 ⟨wv, rfl, fs, r, hRW, hWD⟩
  obtain ⟨sb, cap, rfl⟩ := hRW.form
  have hsp := wd_split hWD
  obtain ⟨f0, r0, h00⟩ : ∃ f0 r0, fs ++ [r] = f0 :: r0 := by cases fs <;> exact ⟨_, _, rfl⟩
  obtain ⟨m, hm⟩ : ∃ m, m = r0.length := ⟨_, rfl⟩
  have hn1 : fs.length = m := by
    have := congrArg List.length h00
    simp at this
    omega
  rw [h00] at hsp hRW
  rw [hn1] at hRW ⊢
  have hlen := split_len t
  rw [hsp] at hlen
  have HSP := keepH hsp
  have HM := keepH hm
  have HFE : Hid (∀ f ∈ f0 :: r0, f.length ≤ 5000000) := keepH (fun f hf => Nat.le_trans (hlen.2 f hf) HTL.out)
  have hm5 : m ≤ 5000000 := by have h1 := hlen.1; have h2 := HTL.out; rw [hm]; simp at h1; omega
  have HB2 : Hid (Below W.heap.size W w2) := keepH (by have h := hRW.chg; exact ⟨h.os, h.tape, h.output, h.size, fun i hi => h.block i hi (fun x => x)⟩)
  have HST : Hid (∀ (i : Nat) (f : List UInt8), (f0 :: r0)[i]? = some f → w2.cell? ⟨sb, i, none⟩ = some (.string (mkS f))) := keepH (fun i f hf => rowI_st hRW (by rw [hm]; rfl) hf)
  clear hwd hWD hsp h00 hm hn1 hRW hlen
  go_wp2_with fail
  go_loopw [5, 6, 7, 8] (fun s5 s6 s7 s8 wr => ∃ (i N lc : Nat) (lp : Option Addr), i ≤ m ∧ s6 = .int .i64 ((i : Int) + 1) ∧ s5 = .slice lp N lc ∧ N = i ∧ Hid (∃ l, N = l.length ∧ AtsQ (r0.take i) l ∧ StZ w2 l (.slice lp N lc) wr)) (fun _ s6 _ _ _ => m + 1 - (intOf s6).toNat)
  case atStart => exact ⟨0, 0, 0, none, by omega, rfl, rfl, rfl, keepH ⟨[], rfl, ⟨by simp, fun z hz => by simp at hz, fun i f x z h => by simp at h⟩, World.ownsRow_nil _ _ _ _, Below.refl _ _, fun b hb => by simp [Value.ownBlock] at hb⟩⟩
  case round =>
    obtain ⟨i, N, lc, lp, hi, rfl, rfl, rfl, HK⟩ := hrel
    obtain ⟨l, hl1, hl2, hl3⟩ := HK.out
    have HL1 := keepH hl1
    have HL2 := keepH hl2
    have HL3 := keepH hl3
    clear hl1 hl2 hl3 HK
    by_cases hlt : N < m
    · have q1 : (N : Int) + 1 < (m : Int) + 1 := by omega
      have q2 : (N : Int) < (m : Int) := by omega
      have q0 : (0 : Int) ≤ (N : Int) + 1 := by omega
      obtain ⟨f, hf⟩ : ∃ f, r0[N]? = some f := ⟨r0[N]'(by have := HM.out; omega), List.getElem?_eq_getElem _⟩
      have c0 : wr.cell? ⟨sb, N + 1, none⟩ = some (.string (mkS f)) := cell_below (HST.out (N + 1) f (by simpa using hf)) HL3.out.bel
      have HQ := keepH (atoi_each f (by have := HFE.out f (by simp [List.mem_of_getElem? hf]); omega) wr (HT.out.on (below_chain HB2.out HL3.out.bel)))
      have HF := keepH hf
      obtain ⟨sf, hsf⟩ : ∃ s, s = mkS f := ⟨_, rfl⟩
      rw [← hsf] at c0 HQ
      clear hf hsf
      have hi2 := HI.out
      go_wp2_with (first | (go_at_call 81; refine HQ.out.mono ?_; rintro e w3 ⟨v3, rfl, ⟨x, px, rfl, hxr, hxz⟩, B3⟩; have HS3 := keepH (HL3.out.on B3); have HXR := keepH hxr; have HXZ := keepH hxz; have HRW : Hid (w3.ownsRow 0 3 1 (.slice lp N lc) N (zRow l)) := keepH (by have h9 := HS3.out.row; rw [← HL1.out] at h9; exact h9); clear hxr hxz B3) | (at_builtin; refine wpList_append_own_at _ rfl (.tmp 25) (.tmp 27) 44 rfl 0 3 i0 (.int .i64 0) 1 8 Tryz.underlying44 hi2 hz0 hz1 hz2 rfl (by decide) (.slice lp N lc) N (zRow l) rfl (HRW.out.alloc _) ⟨w3.heap.size, 0, none⟩ 1 1 [.int .i64 x] rfl rfl (cells_newR _ _ rfl _ _) (by intro u hu; simp at hu; rcases hu with rfl; rfl) (by unfold maxLen; omega) (by omega) (Nat.zero_le _) ?_; intro v2 w4 rr1 rr2 rr3 rr4; have R1 := keepH rr1; have R2 := keepH rr2; have R4 := keepH rr4; clear rr1 rr2 rr3 rr4) | go_in)
      have HNX : Hid (StZ w2 (l ++ [x]) v2 w4) := keepH (HS3.out.more (by rw [← HL1.out]; exact R1.out) R2.out R4.out)
      obtain ⟨lp', lc', e', -⟩ := stz_form HNX.out
      have hl' : (l ++ [x]).length = N + 1 := by rw [List.length_append, ← HL1.out]; rfl
      rw [hl'] at e'
      subst e'
      have HL' := keepH hl'.symm
      have HAQ : Hid (AtsQ (r0.take (N + 1)) (l ++ [x])) := keepH (HL2.out.more HF.out HXR.out HXZ.out)
      clear hl'
      go_roundw
      case rel => exact ⟨N + 1, N + 1, lc', lp', by omega, by first | rfl | go_num, rfl, rfl, keepH ⟨_, HL'.out, HAQ.out, HNX.out⟩⟩
      case measure => simp [intOf]; omega
    · obtain rfl : N = m := by omega
      have q1 : ¬ (N : Int) + 1 < (N : Int) + 1 := by omega
      have HAQ : Hid (AtsQ r0 l) := keepH (by have h9 := HL2.out; rw [HM.out, List.take_length] at h9; exact h9)
      have HSW : Hid (∀ X, Below wr.heap.size wr X → StZ W l (.slice lp N lc) X) := keepH (fun X hb => by
        have h9 := HL3.out.on hb
        exact ⟨h9.row, below_chain HB2.out h9.bel, fun b e => Nat.le_trans HB2.out.size (h9.new b e)⟩)
      by_cases h1 : 1 ≤ N
      · have t1 : (N : Int) ≥ 1 := by omega
        by_cases h2 : N ≤ 20
        · have t2 : (N : Int) ≤ 20 := by omega
          have HIR : Hid (IRd wr lp l) := keepH (by
            obtain ⟨lp2, lc2, e2, h9⟩ := stz_form HL3.out
            injection e2 with e21
            rw [e21]
            exact h9)
          have hpk := dPicks_any lp lc l (by have := HL1.out; omega) HAQ.out.2.1 wr (HT.out.on (below_chain HB2.out HL3.out.bel)) HIR.out
          rw [← HL1.out] at hpk
          have hq : ((mkS (pkT l)).toList == s.toList) = decide (pkT l = t) := by rw [HS.out]; exact beq_mkS _ _
          obtain ⟨sx, hsx⟩ : ∃ s, s = mkS (pkT l) := ⟨_, rfl⟩
          rw [← hsx] at hpk hq
          obtain ⟨ok, hok⟩ : ∃ ok, ok = decide (pkT l = t) := ⟨_, rfl⟩
          rw [← hok] at hq
          have HPK := keepH hpk
          have HQF : Hid (PkQ t ok l) := keepH (pkq_of HSP.out HAQ.out (by
            rw [hok, decide_eq_true_eq]
            have h9 := HL1.out
            exact ⟨fun h => ⟨by omega, by omega, h⟩, fun h => h.2.2⟩))
          clear hpk hsx hok h1 h2
          go_wp2_with (first | (go_at_call 45; refine HPK.out.mono ?_; rintro e w8 ⟨rfl, B8⟩; have HB8 := keepH B8; clear B8) | go_in)
          go_ret2
          exact ⟨l, _, ok, rfl, HSW.out _ HB8.out, HQF.out⟩
        · have t2 : ¬ (N : Int) ≤ 20 := by omega
          have HQF : Hid (PkQ t false l) := keepH (pkq_of HSP.out HAQ.out (by
            have h9 := HL1.out
            exact ⟨fun h => by simp at h, fun h => by omega⟩))
          clear h1 h2
          go_wp2_with fail
          go_ret2
          exact ⟨l, .slice lp N lc, false, by rfl, HSW.out _ (Below.refl _ _), HQF.out⟩
      · have t1 : ¬ (N : Int) ≥ 1 := by omega
        have HQF : Hid (PkQ t false l) := keepH (pkq_of HSP.out HAQ.out (by
          have h9 := HL1.out
          exact ⟨fun h => by simp at h, fun h => by omega⟩))
        clear h1
        go_wp2_with fail
        go_ret2
        exact ⟨l, .slice lp N lc, false, by rfl, HSW.out _ (Below.refl _ _), HQF.out⟩
end Go.Proofs.YtmmaniolaljjlaaGreatDoor
/- ParseOp, by the program. (mkScs.py) -/
namespace Go.Proofs.YtmmaniolaljjlaaGreatDoor
open Go.RowKit Go.Shelf
set_option linter.unusedVariables false

def PoQ (W : World) (t : List UInt8) (e : Ending) (W' : World) : Prop := ∃ ok o kp kc, e = .returned (.tuple #[.agg (opV o kp kc), .int .i64 (if ok = true then 0 else 52)]) ∧ PQ t ok o ∧ KU W.heap.size kp o.keys W' ∧ (ok = false → o = zeroO) ∧ Below W.heap.size W W'
theorem KU.on {B : Nat} {lp : Option Addr} {us : List Nat} {X Y : World} (h : KU B lp us X) (hb : Below X.heap.size X Y) : KU B lp us Y := by
  rcases h with h | ⟨g, h1, h2, h3, h4⟩
  · exact .inl h
  · exact .inr ⟨g, h1, h2, Nat.lt_of_lt_of_le h3 hb.size, fun i x hx => cell_below (h4 i x hx) hb⟩
set_option maxRecDepth 100000 in
set_option maxHeartbeats 4000000 in
theorem parseOp_any (t : List UInt8) (ht : t.length ≤ 5000000) (W : World) (hW : Wd W) (T : Tb W) :
    Calls Tryz.prog 9 #[.string (mkS t)] W (PoQ W t) := by
  obtain ⟨w1, hw1⟩ : ∃ w1, w1 = W.alloc (.cells (opR 0 0 0 0 0 false 0 0 (.slice none 0 0) 0 0) 28) := ⟨_, rfl⟩
  obtain ⟨R, hR⟩ : ∃ R, R = W.heap.size := ⟨_, rfl⟩
  have B1 : Below W.heap.size W w1 := by rw [hw1]; exact below_alloc _ _
  have X1 : w1.heap[R]? = some (.cells (opR 0 0 0 0 0 false 0 0 (.slice none 0 0) 0 0) 28 (0, 0)) := by rw [hw1, hR]; exact heap_alloc_new _ _
  have HPA := keepH (fun b w (hV : IsVoc w b) (hb : Below W.heap.size W w) => parse_any b t ht w hV (hW.on hb) (T.on hb))
  have HW1 := keepH hw1
  have HR := keepH hR
  have HB1 := keepH B1
  have HX1 := keepH X1
  obtain ⟨s, hs⟩ : ∃ s, s = mkS t := ⟨_, rfl⟩
  rw [← hs] at HPA ⊢
  clear hw1 hR B1 X1 hW T hs ht
  go_enter Tryz.func9, Tryz.ntmps9
  go_upto_region 1 with fail
  rw [show W.alloc (.cells #[.int .u8 0, .int .u64 0, .int .u64 0, .int .u64 0, .int .u64 0, .bool false, .int .i64 0, .int .i64 0, .slice none 0 0, .int .u64 0, .int .u64 0] 28) = w1 from HW1.out.symm, ← HR.out]
  go_wp2_with fail
  refine (voc_new w1).mono ?_
  rintro e w2 ⟨rfl, hV, B2⟩
  have HX2 := keepH (heap_below HX1.out B2)
  have HB2 := keepH (below_chain HB1.out B2)
  have HQ := keepH (HPA.out w1.heap.size w2 hV HB2.out)
  have HRL : Hid (R < w2.heap.size) := keepH (Array.getElem?_eq_some_iff.1 HX2.out).1
  obtain ⟨b, hbb⟩ : ∃ b, b = w1.heap.size := ⟨_, rfl⟩
  rw [← hbb] at HQ ⊢
  clear hV B2 hbb
  go_wp2_with fail
  refine HQ.out.mono ?_
  rintro e w3 ⟨ok, o, kp, kc, rfl, hpq, hku, hzo, B3⟩
  have HX3 := keepH (heap_below HX2.out B3)
  have HB3 := keepH (below_chain HB2.out B3)
  have HPQ := keepH hpq
  have HKU := keepH hku
  have HZO := keepH hzo
  clear hpq hku hzo B3
  obtain ⟨k, key, val, old, hnd, set, rt, ri, keys, lo, hi⟩ := o
  simp only [opV]
  obtain ⟨n, hn⟩ : ∃ n, n = keys.length := ⟨_, rfl⟩
  rw [← hn]
  have HN := keepH hn
  obtain ⟨w4, hw4⟩ : ∃ w4, w4 = w3.alloc (.cells (opR k key val old hnd set rt ri (.slice kp n kc) lo hi) 28) := ⟨_, rfl⟩
  obtain ⟨Q, hQ⟩ : ∃ Q, Q = w3.heap.size := ⟨_, rfl⟩
  have B4 : Below w3.heap.size w3 w4 := by rw [hw4]; exact below_alloc _ _
  have X4 : w4.heap[Q]? = some (.cells (opR k key val old hnd set rt ri (.slice kp n kc) lo hi) 28 (0, 0)) := by rw [hw4, hQ]; exact heap_alloc_new _ _
  have HX4 := keepH (heap_below HX3.out B4)
  have HB4 := keepH (below_chain HB3.out B4)
  have HK4 := keepH (HKU.out.on B4)
  have HQ4 := keepH X4
  have HW4 := keepH hw4
  have HQQ := keepH hQ
  have HLR : Hid (W.heap.size ≤ R) := keepH (by rw [HR.out]; exact Nat.le_refl _)
  clear hn hw4 hQ B4 X4
  go_upto_region 2 with fail
  rw [← HW4.out, ← HQQ.out]
  cases ok with
  | false =>
    have hz := HZO.out rfl
    have HPZ := keepH HPQ.out
    rw [hz] at HPZ
    clear hz
    go_wp2_with (first | (refine wpList_store_row rfl 28 _ _ rfl R (opR 0 0 0 0 0 false 0 0 (.slice none 0 0) 0 0) rfl rfl 28 (opR 0 0 0 0 0 false 0 0 (.slice none 0 0) 0 0) HX4.out (by kernel_rfl) rfl (by simp [Value.oneCell']) ?_) | fail)
    have hrow := setRow_heap _ R _ (opR 0 0 0 0 0 false 0 0 (.slice none 0 0) 0 0) 28 (0, 0) HX4.out
    have e0 := cell_of hrow 0
    have e1 := cell_of hrow 1
    have e2 := cell_of hrow 2
    have e3 := cell_of hrow 3
    have e4 := cell_of hrow 4
    have e5 := cell_of hrow 5
    have e6 := cell_of hrow 6
    have e7 := cell_of hrow 7
    have e8 := cell_of hrow 8
    have e9 := cell_of hrow 9
    have e10 := cell_of hrow 10
    simp at e0 e1 e2 e3 e4 e5 e6 e7 e8 e9 e10
    refine bodyPost_ret (v := .tuple #[.agg (opR 0 0 0 0 0 false 0 0 (.slice none 0 0) 0 0), .int .i64 52]) (by simp [results, Tryz.results9, go_sem, e0, e1, e2, e3, e4, e5, e6, e7, e8, e9, e10]) rfl ?_
    exact ⟨false, zeroO, none, 0, rfl, HPZ.out, .inl rfl, fun _ => rfl, below_setRow HB4.out HLR.out _⟩
  | true =>
    have d0 : w4.cell? ⟨Q, 0, none⟩ = _ := cell_of HQ4.out 0
    have d1 : w4.cell? ⟨Q, 1, none⟩ = _ := cell_of HQ4.out 1
    have d2 : w4.cell? ⟨Q, 2, none⟩ = _ := cell_of HQ4.out 2
    have d3 : w4.cell? ⟨Q, 3, none⟩ = _ := cell_of HQ4.out 3
    have d4 : w4.cell? ⟨Q, 4, none⟩ = _ := cell_of HQ4.out 4
    have d5 : w4.cell? ⟨Q, 5, none⟩ = _ := cell_of HQ4.out 5
    have d6 : w4.cell? ⟨Q, 6, none⟩ = _ := cell_of HQ4.out 6
    have d7 : w4.cell? ⟨Q, 7, none⟩ = _ := cell_of HQ4.out 7
    have d8 : w4.cell? ⟨Q, 8, none⟩ = _ := cell_of HQ4.out 8
    have d9 : w4.cell? ⟨Q, 9, none⟩ = _ := cell_of HQ4.out 9
    have d10 : w4.cell? ⟨Q, 10, none⟩ = _ := cell_of HQ4.out 10
    go_wp2_with (first | (refine wpList_store_row rfl 28 _ _ rfl R (opR k key val old hnd set rt ri (.slice kp n kc) lo hi) rfl rfl 28 (opR 0 0 0 0 0 false 0 0 (.slice none 0 0) 0 0) HX4.out (by kernel_rfl) rfl (by simp [Value.oneCell']) ?_) | fail)
    have hrow := setRow_heap _ R _ (opR k key val old hnd set rt ri (.slice kp n kc) lo hi) 28 (0, 0) HX4.out
    have e0 := cell_of hrow 0
    have e1 := cell_of hrow 1
    have e2 := cell_of hrow 2
    have e3 := cell_of hrow 3
    have e4 := cell_of hrow 4
    have e5 := cell_of hrow 5
    have e6 := cell_of hrow 6
    have e7 := cell_of hrow 7
    have e8 := cell_of hrow 8
    have e9 := cell_of hrow 9
    have e10 := cell_of hrow 10
    simp at e0 e1 e2 e3 e4 e5 e6 e7 e8 e9 e10
    refine bodyPost_ret (v := .tuple #[.agg (opR k key val old hnd set rt ri (.slice kp n kc) lo hi), .int .i64 0]) (by simp [results, Tryz.results9, go_sem, e0, e1, e2, e3, e4, e5, e6, e7, e8, e9, e10]) rfl ?_
    exact ⟨true, ⟨k, key, val, old, hnd, set, rt, ri, keys, lo, hi⟩, kp, kc, by rw [HN.out]; rfl, HPQ.out, (HK4.out.row HRL.out _).mono HB2.out.size, fun e => by simp at e, below_setRow HB4.out HLR.out _⟩
end Go.Proofs.YtmmaniolaljjlaaGreatDoor
