/- Width, by a sweep over what is sorted. -/
import Derived.Test.YtaigpbbehlofbaaHSort
import Derived.Test.YtaigpbbehlofbaaHWidP
import Derived.Test.YtaigpbbehlofbaaHSmall
import Derived.BigQuiet
namespace Go.Proofs.Ytaigpbbehlofbaa
open Go.RowKit
set_option linter.unusedVariables false

structure WJ (W wr : World) (bv ev : Value) (bl el : List Int) : Prop where
  bs : wr.ownsRow 0 3 1 bv bl.length (bl.map (Value.int .i64))
  es : wr.ownsRow 0 3 1 ev el.length (el.map (Value.int .i64))
  ap : ∀ g, bv.ownBlock = some g → ev.ownBlock ≠ some g
  nb : ∀ g, bv.ownBlock = some g → W.heap.size ≤ g
  ne : ∀ g, ev.ownBlock = some g → W.heap.size ≤ g
  chg : Chg (fun _ => False) W wr
theorem WJ.start (W : World) : WJ W W (.slice none 0 0) (.slice none 0 0) [] [] :=
  ⟨World.ownsRow_nil _ _ _ _, World.ownsRow_nil _ _ _ _, fun g e => by simp [Value.ownBlock] at e, fun g e => by simp [Value.ownBlock] at e, fun g e => by simp [Value.ownBlock] at e, Chg.refl _ _⟩
theorem WJ.quiet {W wr wx : World} {bv ev : Value} {bl el : List Int} (h : WJ W wr bv ev bl el) (c : Chg (fun _ => False) wr wx) : WJ W wx bv ev bl el :=
  ⟨row_kept h.bs fun g e => c.block g (row_lt h.bs g e) (fun x => x), row_kept h.es fun g e => c.block g (row_lt h.es g e) (fun x => x), h.ap, h.nb, h.ne, h.chg.trans c (fun _ _ x => x) (fun _ _ x => x)⟩
theorem WJ.flip {W wr : World} {bv ev : Value} {bl el : List Int} (h : WJ W wr bv ev bl el) : WJ W wr ev bv el bl := ⟨h.es, h.bs, fun g e e' => h.ap g e' e, h.ne, h.nb, h.chg⟩
theorem WJ.add {W wr w2 : World} {ob : Obj} {bv ev b2 : Value} {bl el : List Int} {z : Int} (h : WJ W wr bv ev bl el) (hr : w2.ownsRow 0 3 1 b2 (bl.length + 1) (bl.map (Value.int .i64) ++ [.int .i64 z])) (hg : (wr.alloc ob).grownBy w2 bv.ownBlock) (hw : b2.ownBlock = bv.ownBlock ∨ b2.ownBlock = some (wr.alloc ob).heap.size) : WJ W w2 b2 ev (bl ++ [z]) el := by
  have sz := h.chg.size
  refine ⟨by simpa using hr, row_kept h.es fun g e => (hg.block g (by have := row_lt h.es g e; simp; omega) (fun x => h.ap g x.symm e)).trans (Below.heap_alloc _ _ _ (row_lt h.es g e)), fun g e e' => ?_, fun g e => ?_, h.ne, ((h.chg.alloc ob).grown hg (fun k e hk => ?_))⟩
  · rcases hw with q | q
    · exact h.ap g (by rw [← q]; exact e) e'
    · have := row_lt h.es g e'
      rw [q] at e
      simp at e
      omega
  · rcases hw with q | q
    · exact h.nb g (by rw [← q]; exact e)
    · rw [q] at e
      simp at e
      omega
  · have := h.nb k e
    omega
/-- Behind the sort of one. -/
theorem WJ.sorted {W wr w2 : World} {bv ev : Value} {bl b2 el : List Int} (h : WJ W wr bv ev bl el) (hl : b2.length = bl.length) (hr : w2.ownsRow 0 3 1 bv bl.length (b2.map (Value.int .i64))) (c : Chg (fun k => bv.ownBlock = some k) wr w2) : WJ W w2 bv ev b2 el :=
  ⟨by rw [hl]; exact hr, row_kept h.es fun g e => c.block g (row_lt h.es g e) (fun x => h.ap g x e), h.ap, h.nb, h.ne, h.chg.trans c (fun _ _ x => x) (fun i hi x => by have := h.nb i x; omega)⟩
theorem take_snocS {l : List Sp} {k : Nat} {s : Sp} (h : l[k]? = some s) : l.take (k + 1) = l.take k ++ [s] := by
  rw [List.take_add_one, h]
  rfl
theorem infoInt : (Try.prog.info? 3).map (fun i => (i.zero, i.size, i.bytes)) = some (some (.int .i64 0), 1, 8) := by kernel_rfl
theorem cells_newI (w : World) (g : Nat) (hg : w.heap.size = g) (cs : Array Value) (t : TypeId) : ∀ j u, cs.toList[j]? = some u → (w.alloc (.cells cs t)).cell? ((⟨g, 0, none⟩ : Addr).add j) = some u := by
  intro j u h
  subst hg
  have e : (⟨w.heap.size, 0, none⟩ : Addr).add j = ⟨w.heap.size, j, none⟩ := by unfold Addr.add; split <;> simp_all
  rw [e]
  have hh : (w.alloc (.cells cs t)).heap[w.heap.size]? = some (.cells cs t (0, 0)) := heap_alloc_new _ _
  rw [cell_of hh j]
  simpa using h
theorem slice_ofI {W : World} {e : TypeId} {s n : Nat} {v : Value} {xs : List Value} (h : W.ownsRow 0 e s v n xs) : ∃ p c, v = .slice p n c := by
  rcases h.2 with ⟨h0, h1⟩ | ⟨g, cap, cur, hv, _⟩
  · exact ⟨none, 0, by rw [h0, h1]⟩
  · exact ⟨_, cap, hv⟩
theorem int_cell {W : World} {v : Value} {zs : List Int} (h : W.ownsRow 0 3 1 v zs.length (zs.map (Value.int .i64))) (i : Nat) (z : Int) (hi : zs[i]? = some z) : ∃ g c, v = .slice (some ⟨g, 0, none⟩) zs.length c ∧ W.cell? ⟨g, i, none⟩ = some (.int .i64 z) := by
  have hl := (List.getElem?_eq_some_iff.1 hi).1
  rcases h.2 with ⟨h0, h1⟩ | ⟨g, cap, cur, hv, hg, hb, hn, hcap, hsz, htk⟩
  · omega
  · refine ⟨g, cap, hv, ?_⟩
    rw [hv] at h
    rw [World.ownsRow.cellAt h i (by omega)]
    simp [hi]

set_option maxRecDepth 100000 in
set_option maxHeartbeats 8000000 in
theorem h_width (p : Option Addr) (c : Nat) (l : List Sp) (W : World) (h : SReads W p l) (hl : l.length ≤ 4398046511104) :
    Calls Try.prog 11 #[.slice p l.length c] W fun e W' => e = .returned (.int .i64 ((wOf (fun f => l.countP (atB f)) (begs l) : Nat) : Int)) ∧ Chg (fun _ => False) W W' := by
  obtain ⟨i0, hi0, hz0, hz1, hz2⟩ := info_parts infoInt
  have HP := keepH h
  clear h
  go_enter Try.func11, Try.ntmps11
  go_wp2_with fail
  go_loopw [3, 4, 13] (fun bv ev s wr => ∃ k : Nat, k ≤ l.length ∧ s = .int .i64 (k : Int) ∧ Hid (WJ W wr bv ev (begs (l.take k)) (ens (l.take k)))) (fun _ _ s _ => l.length - (intOf s).toNat)
  case atStart => exact ⟨0, by omega, rfl, keepH (WJ.start W)⟩
  case round =>
    obtain ⟨k, hk, rfl, HK⟩ := hrel
    by_cases hlt : k < l.length
    · have t1 : (k : Int) < (l.length : Int) := by omega
      obtain ⟨s, hs⟩ : ∃ s, l[k]? = some s := ⟨l[k], List.getElem?_eq_getElem hlt⟩
      obtain ⟨bk, off, rfl, _, c0, c1, c2, c3⟩ := (HP.out.chg HK.out.chg (fun _ _ x => x)).get k s hs
      have HTS := keepH (take_snocS hs)
      obtain ⟨bl, hbl⟩ : ∃ bl, bl = begs (l.take k) := ⟨_, rfl⟩
      obtain ⟨el, hel⟩ : ∃ el, el = ens (l.take k) := ⟨_, rfl⟩
      have HBL := keepH hbl
      have HEL := keepH hel
      have bb : bl.length ≤ 4398046511104 := by rw [hbl]; have := begs_len (l.take k); have := List.length_take_le k l; omega
      have eb : el.length ≤ 4398046511104 := by rw [hel]; have := ens_len (l.take k); have := List.length_take_le k l; omega
      have HJ : Hid (WJ W wr u3 u4 bl el) := by rw [hbl, hel]; exact HK.out
      obtain ⟨th, ix, fr, tz⟩ := s
      simp only at c0 c1 c2 c3
      clear hs hbl hel HK
      have HBX : Hid (∀ w1, Chg (fun _ => False) (wr.alloc (.cells #[.int .i64 th, .int .i64 ix, .int .i64 fr, .int .i64 tz] 28)) w1 → w1.heap[wr.heap.size]? = some (.cells #[.int .i64 th, .int .i64 ix, .int .i64 fr, .int .i64 tz] 28 (0, 0))) := fun w1 C => (C.block _ (by simp) (fun x => x)).trans (heap_alloc_new _ _)
      go_wp2_with fail
      refine (h_pending th ix fr tz _).mono ?_
      rintro e w1 ⟨rfl, C1⟩
      have CB : Hid (Chg (fun _ => False) wr w1) := ((Chg.refl (fun _ => False) wr).alloc _).trans C1 (fun _ _ x => x) (fun _ _ x => x)
      have BX := keepH (HBX.out w1 C1)
      have HJ1 := keepH (HJ.out.quiet CB.out)
      have f2 : w1.cell? ⟨wr.heap.size, 2, none⟩ = some (.int .i64 fr) := cell_of BX.out 2
      have f3 : w1.cell? ⟨wr.heap.size, 3, none⟩ = some (.int .i64 tz) := cell_of BX.out 3
      clear C1 c0 c1 c2 c3
      by_cases h1 : tz < 0
      · have d1 : decide (tz < 0) = true := decide_eq_true h1
        have EB : Hid (begs (l.take (k + 1)) = bl ++ [fr]) := by show _ = _; rw [HTS.out, begs_snoc, HBL.out]; simp [begB, h1]
        have EE : Hid (ens (l.take (k + 1)) = el) := by show _ = _; rw [HTS.out, ens_snoc, HEL.out]; simp [endB]; omega
        go_wp2_with (first | (at_builtin; refine wpList_append_own_at _ rfl (.tmp 20) (.tmp 23) 23 rfl 0 3 i0 (.int .i64 0) 1 8 Try.underlying23 hi0 hz0 hz1 hz2 rfl (by decide) u3 bl.length (bl.map (Value.int .i64)) rfl (HJ1.out.bs.alloc _) ⟨w1.heap.size, 0, none⟩ 1 1 [.int .i64 fr] rfl rfl (cells_newI _ _ rfl _ _) (by intro u hu; simp at hu; subst hu; rfl) (by unfold maxLen; omega) (by omega) (Nat.zero_le _) ?_; intro v2 w2 r1 r2 r3 r4; have HJ2 := keepH (HJ1.out.add r1 r2 r4); clear r1 r2 r3 r4) | go_in)
        go_roundw
        case rel => exact ⟨k + 1, by omega, by first | rfl | go_num, keepH (by rw [EB.out, EE.out]; exact HJ2.out)⟩
        case measure => simp [intOf]; omega
      · have d1 : decide (tz < 0) = false := decide_eq_false h1
        by_cases h2 : fr ≤ tz
        · have EB : Hid (begs (l.take (k + 1)) = bl ++ [fr]) := by show _ = _; rw [HTS.out, begs_snoc, HBL.out]; simp [begB, h2]
          have EE : Hid (ens (l.take (k + 1)) = el ++ [tz]) := by show _ = _; rw [HTS.out, ens_snoc, HEL.out]; simp [endB, h2]; omega
          go_wp2_with (first | (at_builtin; refine wpList_append_own_at _ rfl (.tmp 31) (.tmp 34) 23 rfl 0 3 i0 (.int .i64 0) 1 8 Try.underlying23 hi0 hz0 hz1 hz2 rfl (by decide) u3 bl.length (bl.map (Value.int .i64)) rfl (HJ1.out.bs.alloc _) ⟨w1.heap.size, 0, none⟩ 1 1 [.int .i64 fr] rfl rfl (cells_newI _ _ rfl _ _) (by intro u hu; simp at hu; subst hu; rfl) (by unfold maxLen; omega) (by omega) (Nat.zero_le _) ?_; intro v2 w2 r1 r2 r3 r4; have HJ2 := keepH (HJ1.out.add r1 r2 r4); have f4 : w2.cell? ⟨wr.heap.size, 3, none⟩ = some (.int .i64 tz) := cell_of ((r2.block _ (by have := lt_of BX.out; simp; omega) (fun e => block_apart HJ1.out.bs BX.out (by decide) e.symm)).trans (alloc_of BX.out _)) 3; clear r1 r2 r3 r4) | (at_builtin; refine wpList_append_own_at _ rfl (.tmp 36) (.tmp 39) 23 rfl 0 3 i0 (.int .i64 0) 1 8 Try.underlying23 hi0 hz0 hz1 hz2 rfl (by decide) u4 el.length (el.map (Value.int .i64)) rfl (HJ2.out.es.alloc _) ⟨w2.heap.size, 0, none⟩ 1 1 [.int .i64 tz] rfl rfl (cells_newI _ _ rfl _ _) (by intro u hu; simp at hu; subst hu; rfl) (by unfold maxLen; omega) (by omega) (Nat.zero_le _) ?_; intro v3 w3 r1 r2 r3 r4; have HJ3 := keepH (HJ2.out.flip.add r1 r2 r4).flip; clear r1 r2 r3 r4) | go_in)
          go_roundw
          case rel => exact ⟨k + 1, by omega, by first | rfl | go_num, keepH (by rw [EB.out, EE.out]; exact HJ3.out)⟩
          case measure => simp [intOf]; omega
        · have EB : Hid (begs (l.take (k + 1)) = bl) := by show _ = _; rw [HTS.out, begs_snoc, HBL.out]; simp [begB, h1, h2]
          have EE : Hid (ens (l.take (k + 1)) = el) := by show _ = _; rw [HTS.out, ens_snoc, HEL.out]; simp [endB, h2]
          go_wp2_with fail
          go_roundw
          case rel => exact ⟨k + 1, by omega, by first | rfl | go_num, keepH (by rw [EB.out, EE.out]; exact HJ1.out)⟩
          case measure => simp [intOf]; omega
    · obtain rfl : k = l.length := by omega
      have t1 : ¬ (l.length : Int) < (l.length : Int) := by omega
      have HJ : Hid (WJ W wr u3 u4 (begs l) (ens l)) := by have e := HK.out; rw [List.take_length] at e; exact e
      clear HK
      go_wp2_with fail
      refine (sort_ints u3 (begs l) _ HJ.out.bs (by have := begs_len l; omega)).mono ?_
      rintro e w1 ⟨rfl, R1, C1⟩
      have HJ1 := keepH (HJ.out.sorted (sortZ_length _) R1 C1)
      clear R1 C1
      go_wp2_with fail
      refine (sort_ints u4 (ens l) _ HJ1.out.es (by have := ens_len l; omega)).mono ?_
      rintro e w2 ⟨rfl, R2, C2⟩
      have HJ2 := keepH (HJ1.out.flip.sorted (sortZ_length _) R2 C2).flip
      clear R2 C2
      obtain ⟨bs, hbs⟩ : ∃ bs, bs = sortZ (begs l) := ⟨_, rfl⟩
      obtain ⟨es, hes⟩ : ∃ es, es = sortZ (ens l) := ⟨_, rfl⟩
      have HRB : Hid (Rises bs) := by rw [hbs]; exact fun i j a b => sortZ_rises _ i j a b
      have HRE : Hid (Rises es) := by rw [hes]; exact fun i j a b => sortZ_rises _ i j a b
      have HPB : Hid (bs.Perm (begs l)) := by rw [hbs]; exact sortZ_perm _
      have HPE : Hid (es.Perm (ens l)) := by rw [hes]; exact sortZ_perm _
      rw [← hbs, ← hes] at HJ2
      have HW : Hid (sweep (fun f => es.countP (ltB f)) bs bs.length = wOf (fun f => l.countP (atB f)) (begs l)) := width_is l bs es HPB.out HPE.out HRB.out
      have nb0 : bs.length ≤ 4398046511104 := by rw [HPB.out.length_eq]; have := begs_len l; omega
      have ne0 : es.length ≤ 4398046511104 := by rw [HPE.out.length_eq]; have := ens_len l; omega
      obtain ⟨n, hn⟩ : ∃ n, n = bs.length := ⟨_, rfl⟩
      obtain ⟨m, hm⟩ : ∃ m, m = es.length := ⟨_, rfl⟩
      obtain ⟨pb, cb, hvb⟩ : ∃ pb cb, u3 = .slice pb n cb := by rw [hn]; exact slice_ofI HJ2.out.bs
      obtain ⟨pe, ce, hve⟩ : ∃ pe ce, u4 = .slice pe m ce := by rw [hm]; exact slice_ofI HJ2.out.es
      subst hvb
      subst hve
      rw [← hn] at nb0
      rw [← hm] at ne0
      have HN := keepH hn
      have HM := keepH hm
      clear hbs hes hn hm HJ HJ1
      go_wp2_with fail
      go_loopw [7, 8, 48] (fun s7 s8 s48 wz => ∃ i ov wd : Nat, i ≤ n ∧ s7 = .int .i64 (wd : Int) ∧ s8 = .int .i64 (ov : Int) ∧ s48 = .int .i64 (i : Int) ∧ wz = w2 ∧ Hid (wd = sweep (fun f => es.countP (ltB f)) bs i ∧ wd ≤ i ∧ ov ≤ m ∧ ∀ b, bs[i]? = some b → ov ≤ es.countP (ltB b))) (fun _ _ s48 _ => n - (intOf s48).toNat)
      case atStart => exact ⟨0, 0, 0, by omega, rfl, rfl, rfl, rfl, keepH ⟨rfl, Nat.le_refl _, Nat.zero_le _, fun b _ => Nat.zero_le _⟩⟩
      case round =>
        obtain ⟨wz, hwz⟩ : ∃ wz, wz = wr := ⟨_, rfl⟩
        rw [← hwz] at hrel ⊢
        clear hwz
        obtain ⟨i, ov, wd, hin, rfl, rfl, rfl, hzw, HI⟩ := hrel
        subst hzw
        by_cases hil : i < n
        · have t2 : (i : Int) < (n : Int) := by omega
          obtain ⟨b, hb⟩ : ∃ b, bs[i]? = some b := ⟨bs[i]'(by have := HN.out; omega), List.getElem?_eq_getElem _⟩
          obtain ⟨g, cg, hv, cell⟩ := int_cell HJ2.out.bs i b hb
          simp only [Value.slice.injEq] at hv
          obtain ⟨hv, -, -⟩ := hv
          subst hv
          have HB := keepH hb
          obtain ⟨eb, heb⟩ : ∃ eb, eb = es.countP (ltB b) := ⟨_, rfl⟩
          have HEB := keepH heb
          have hov : ov ≤ eb := by rw [heb]; exact HI.out.2.2.2 b hb
          have hem : eb ≤ m := by have := HM.out; rw [heb, this]; exact List.countP_le_length
          have hei : eb ≤ i := by rw [heb]; exact over_le l bs es HPB.out HPE.out HRB.out i b hb
          clear hb heb
          go_wp2_with fail
          clear cell
          go_loopw [8] (fun s8 wy => ∃ o : Nat, o ≤ eb ∧ s8 = .int .i64 (o : Int) ∧ wy = wz) (fun s8 _ => eb - (intOf s8).toNat)
          case atStart => exact ⟨ov, hov, rfl, rfl⟩
          case round =>
            obtain ⟨wy, hwy⟩ : ∃ wy, wy = wr := ⟨_, rfl⟩
            rw [← hwy] at hrel ⊢
            clear hwy
            obtain ⟨o, ho, rfl, hyz⟩ := hrel
            subst hyz
            by_cases hoe : o < eb
            · have t3 : (o : Int) < (m : Int) := by omega
              have t3n : decide (o < m) = true := decide_eq_true (by omega)
              obtain ⟨z, hz⟩ : ∃ z, es[o]? = some z := ⟨es[o]'(by have := HM.out; omega), List.getElem?_eq_getElem _⟩
              obtain ⟨ge, cge, hv, cell⟩ := int_cell HJ2.out.es o z hz
              simp only [Value.slice.injEq] at hv
              obtain ⟨hv, -, -⟩ := hv
              subst hv
              have hzb : z < b := by
                have := (rises_count (ltB b) (ltB_mono b) es HRE.out o z hz).2 (by rw [← HEB.out]; exact hoe)
                simpa [ltB] using this
              clear hz
              go_wp2_with fail
              go_roundw
              case rel => first | exact ⟨o + 1, by omega, (by first | rfl | trivial | go_num), (by first | rfl | trivial)⟩ | ((repeat apply Exists.intro); refine ⟨?_, rfl⟩; exact ⟨o + 1, by omega, (by first | rfl | trivial | go_num), (by first | rfl | trivial)⟩)
              case measure => simp [intOf]; omega
            · obtain rfl : o = eb := by omega
              have HNX : Hid (wd = sweep (fun f => es.countP (ltB f)) bs i) := HI.out.1
              have hwd : wd ≤ i := HI.out.2.1
              have HSN : Hid (sweep (fun f => es.countP (ltB f)) bs (i + 1) = max wd (i + 1 - o)) := by
                show max _ _ = _
                rw [← HNX.out]
                have : bs.getD i 0 = b := by rw [List.getD_eq_getElem?_getD, HB.out]; rfl
                rw [this, HEB.out]
              have HNX2 : Hid (∀ b', bs[i + 1]? = some b' → o ≤ es.countP (ltB b')) := fun b' h' => by rw [HEB.out]; exact over_next bs es HRB.out i b b' HB.out h'
              have w1' : IntKind.i64.wrap ((i : Int) + 1) = (i : Int) + 1 := by rw [IntKind.wrap_i64]; omega
              have w2' : IntKind.i64.wrap ((i : Int) + 1 - (o : Int)) = (i : Int) + 1 - (o : Int) := by rw [IntKind.wrap_i64]; omega
              by_cases hom : o < m
              · have t3 : (o : Int) < (m : Int) := by omega
                obtain ⟨z, hz⟩ : ∃ z, es[o]? = some z := ⟨es[o]'(by have := HM.out; omega), List.getElem?_eq_getElem _⟩
                obtain ⟨ge, cge, hv, cell⟩ := int_cell HJ2.out.es o z hz
                simp only [Value.slice.injEq] at hv
                obtain ⟨hv, -, -⟩ := hv
                subst hv
                have hzb : ¬ z < b := fun x => by
                  have := (rises_count (ltB b) (ltB_mono b) es HRE.out o z hz).1 (by simpa [ltB] using x)
                  have := HEB.out
                  omega
                clear hz
                go_wp2_with fail
                refine ⟨⟨i + 1, o, max wd (i + 1 - o), by omega, ?_, rfl, by first | rfl | go_num, trivial, keepH ⟨HSN.out.symm, by omega, by omega, HNX2.out⟩⟩, ?_⟩
                · have e : max (wd : Int) ((i : Int) + 1 - (o : Int)) = ((max wd (i + 1 - o) : Nat) : Int) := by omega
                  rw [e]
                · simp [intOf]; omega
              · have t3 : ¬ (o : Int) < (m : Int) := by omega
                go_wp2_with fail
                refine ⟨⟨i + 1, o, max wd (i + 1 - o), by omega, ?_, rfl, by first | rfl | go_num, trivial, keepH ⟨HSN.out.symm, by omega, by omega, HNX2.out⟩⟩, ?_⟩
                · have e : max (wd : Int) ((i : Int) + 1 - (o : Int)) = ((max wd (i + 1 - o) : Nat) : Int) := by omega
                  rw [e]
                · simp [intOf]; omega
        · obtain rfl : i = n := by omega
          have t2 : ¬ (i : Int) < (i : Int) := by omega
          have e9 : wd = wOf (fun f => l.countP (atB f)) (begs l) := by rw [← HW.out, HI.out.1, HN.out]
          have HC9 := keepH HJ2.out.chg
          have HE9 := keepH e9
          clear e9
          go_wp2_with fail
          go_ret
          refine ⟨?_, HC9.out⟩
          rw [← HE9.out]
          simp
end Go.Proofs.Ytaigpbbehlofbaa
