/- Runs that keep other blocks beside them. -/
import Derived.Test.YtadbgmcfjemkeaaHz
import Derived.WalkKit
namespace Go.Proofs.Ytadbgmcfjemkeaa
open Go.RowKit Go.Shelf
set_option linter.unusedVariables false

/-- The run's start. -/
theorem gl_startx {W W3 X Y : World} {F G : Nat → Prop} {r m b T n2 next : Nat} {tv0 sv tv : Value} {rv qv : Nat → Value} {rm qm cl : Nat → Nat} {pv : Nat → Nat → Value} {σ : Nat → Nat → VP} {D : Nat → Nat → Nat → Prop} {tg : Nat → BT} {ths : List Thr} {vbs : List Nat} {cs : List Nat} {l : List Acc} (picks : List Int) (hC : Chg (fun _ => False) W W3) (hm : IsMem W3 m b) (hb : Bank W3 F b 16384 next cs l) (hll : l.length ≤ 16000000) (hF : ∀ k, F k → W.heap.size ≤ k) (hmW : W.heap.size ≤ m) (nm : ¬ F m) (Sx : Nat → Prop) (hSx : ∀ k, Sx k → k < W3.heap.size ∧ ¬ F k ∧ k ≠ m)
    (B : BL W3 X T T n2 tv0 sv rv qv rm qm cl pv σ D tg) (M : Made X Y G r m b tv (tlOf T rv cl pv) ths vbs T) (hl : ths.length = T) (hok : ∀ i j, i < T → j < cl i → vcK.ok 0 (σ i j)) : GRun vcK 16384 m b T cl (fun j => vbs.getD j 0) pv ⟨next, cs, l.map Acc.bare, fun _ => 0, σ⟩ W Y Y (fun k => psS T sv qv k ∨ Sx k) r picks 0 := by
  have s1 := hC.size
  have s2 := B.chg.size
  have s3 := M.chg.size
  have cY := B.chg.trans M.chg (H := fun _ => False) (fun _ _ x => x) (fun _ _ x => x)
  have lm := hm.lt
  have lF : ∀ k, F k → k < W3.heap.size := by obtain ⟨_, _, B⟩ := hb; exact B.lt
  have hv : ∀ j, j < T → vbs[j]? = some (vbs.getD j 0) := fun j hj => by
    have : j < vbs.length := by rw [M.vl]; exact hj
    simp [List.getElem?_eq_getElem this]
  have vws := fun j (hj : j < T) => M.views j _ (hv j hj)
  have lD : ∀ i j k, i < T → j < cl i → D i j k → k < X.heap.size := fun i j k hi hj e => vcK.lt (B.pr i j hi hj) e
  have hvi : ∀ i, i < T → X.heap.size ≤ vbs.getD i 0 ∧ vbs.getD i 0 < Y.heap.size ∧ ¬ G (vbs.getD i 0) := fun i hi => ⟨(vws i hi).2.1, lt_of (vws i hi).1, (vws i hi).2.2⟩
  have hmF : m < W3.heap.size := lm
  have hS : ∀ k, psS T sv qv k → W3.heap.size ≤ k ∧ k < X.heap.size ∧ ∀ i j, tg k ≠ .d i j := fun k e => by
    rcases e with e | ⟨i, hi, e⟩
    · exact ⟨(B.tO2 k e).1, row_lt B.outer2 k e, fun i j => by rw [(B.tO2 k e).2]; simp⟩
    · exact ⟨(B.tR2 i k hi e).1, row_lt (B.inner2 i hi) k e, fun i j => by rw [(B.tR2 _ k hi e).2]; simp⟩
  refine ⟨G, fun k => F k ∨ k = m ∨ (∃ i, i < T ∧ k = vbs.getD i 0) ∨ (∃ i j, i < T ∧ j < cl i ∧ D i j k), vwOf vbs, tv, _, _, ths, [], [], M.run, ⟨F, D, fun _ => 0, fun k => open Classical in if k < W3.heap.size then (if F k then .mem else .main) else if k < X.heap.size then (match tg k with | .d i j => .proc i j | _ => .none) else if h : ∃ j, j < T ∧ vbs.getD j 0 = k then .view h.choose else .none, ⟨⟨l, hb.chg cY (fun _ _ h => h), rfl⟩, hm.chg cY (fun h => h), fun i hi => ⟨(vws i hi).1, Nat.le_refl _⟩, fun i j hi hj => vcK.kept (B.pr i j hi hj) (fun k e => M.chg.block k (lD i j k hi hj e) (fun x => x)), fun i j hi hj _ => hok i j hi hj, fun k e => ⟨.inl e, ?_⟩, ⟨.inr (.inl rfl), ?_⟩, fun i hi => ⟨.inr (.inr (.inl ⟨i, hi, rfl⟩)), ?_⟩, fun i j k hi hj e => ⟨.inr (.inr (.inr ⟨i, j, hi, hj, e⟩)), ?_⟩, fun k e => ?_, by show (l.map Acc.bare).length ≤ 0 + 16000000; simpa using hll, by omega⟩⟩, fun j e hk => ?_, hl, fun j t ht => ?_, fun j hj => vwOf_get _ _ _ (hv j hj), by simp, fun j e => ?_, hC.trans cY (fun _ _ x => x) (fun _ _ x => x), fun j e => ?_⟩
  · simp only [if_pos (lF k e), if_pos e]
  · simp only [if_pos hmF, if_neg nm]
  · obtain ⟨z1, z2, z3⟩ := hvi i hi
    simp only [if_neg (show ¬ vbs.getD i 0 < W3.heap.size by omega), if_neg (show ¬ vbs.getD i 0 < X.heap.size by omega)]
    have ex : ∃ j, j < T ∧ vbs.getD j 0 = vbs.getD i 0 := ⟨i, hi, rfl⟩
    rw [dif_pos ex]
    congr 1
    obtain ⟨c1, c2⟩ := ex.choose_spec
    exact Decidable.byContradiction fun ne => M.apart _ _ _ _ ne (hv _ c1) (hv _ hi) c2
  · have z := B.tD i j k hi hj e
    simp only [if_neg (show ¬ k < W3.heap.size by omega), if_pos (lD i j k hi hj e), z.2]
  · rcases e with e | e | ⟨i, hi, e⟩ | ⟨i, j, hi, hj, e⟩
    · have := lF k e; omega
    · omega
    · have := (hvi i hi).2.1; omega
    · have := lD i j k hi hj e; omega
  · have g := M.inG j e
    rcases hk with z | z | ⟨i, hi, z⟩ | ⟨i, q, hi, hq, z⟩
    · have := lF j z; omega
    · omega
    · rw [z] at e; exact (hvi i hi).2.2 e
    · have := lD i q j hi hq z; omega
  · obtain ⟨x, hx, h1, h2, h3⟩ := M.thr j t ht
    have hj : j < T := by
      have := (List.getElem?_eq_some_iff.1 hx).1
      simpa [tlOf] using this
    simp [tlOf, hj] at hx
    subst hx
    rw [h1]
    refine ⟨by simp, fun q hq => by simp [hq], ?_⟩
    rw [h2]
    rfl
  · rcases e with e | e | e | ⟨i, hi, e⟩ | ⟨i, q, hi, hq, e⟩
    · have := M.inG j e; omega
    · exact hF j e
    · omega
    · have := (hvi i hi).1; omega
    · have := (B.tD i q j hi hq e).1; omega
  · rcases e with e | e
    · obtain ⟨y1, y2, y3⟩ := hS j e
      refine ⟨by omega, rfl, fun g => by have := M.inG j g; omega, fun k => ?_⟩
      rcases k with z | z | ⟨i, hi, z⟩ | ⟨i, q, hi, hq, z⟩
      · have := lF j z; omega
      · omega
      · have := (hvi i hi).1; omega
      · exact y3 i q (B.tD i q j hi hq z).2
    · obtain ⟨y1, y2, y3⟩ := hSx j e
      refine ⟨by omega, rfl, fun g => by have := M.inG j g; omega, fun k => ?_⟩
      rcases k with z | z | ⟨i, hi, z⟩ | ⟨i, q, hi, hq, z⟩
      · exact y2 z
      · exact y3 z
      · have := (hvi i hi).1; omega
      · have := (B.tD i q j hi hq z).1; omega
/-- A run, so many picks done; what the law keeps of its procs. -/
structure REx (Sx : Nat → Prop) (n0 : Nat) (W W3 : World) (m b : Nat) (L : List ThrV) (picks : List Int) (k : Nat) (next : Nat) (cs : List Nat) (ch : Nat → List Nat) (X : World) (sv : Value) (r : Nat) (cl vb : Nat → Nat) (pv : Nat → Nat → Value) (c0 : Cfg VP) (Z : World) (qv : Nat → Value) : Prop where
  run : GRun vcK 16384 m b L.length cl vb pv c0 W Z X (fun k => psS L.length sv qv k ∨ Sx k) r picks k
  out : Z.ownsRow 0 47 1 sv L.length ((List.range L.length).map qv)
  inn : ∀ i, i < L.length → Z.ownsRow 0 58 6 (qv i) (cl i) (prRow (pv i) (cl i))
  len : ∀ i t, L[i]? = some t → cl i = t.ks.length
  sg : ∀ i j t q, L[i]? = some t → t.ks[j]? = some q → c0.σ i j = q.start
  inv : VInv L.length cl c0 ch (fun _ => (L.length, 0))
  cn : c0.next = next
  cc : c0.cs = cs
  ct : c0.t.length = n0
  old : Chg (fun _ => False) W3 Z
theorem OB.runx {W W3 X : World} {L : List ThrV} {tv0 sv : Value} {F : Nat → Prop} {m b next : Nat} {cs : List Nat} {l : List Acc} {ch : Nat → List Nat} (picks : List Int) (h : OB W3 X L L.length tv0 sv) (hC : Chg (fun _ => False) W W3) (hm : IsMem W3 m b) (hb : Bank W3 F b 16384 next cs l) (hll : l.length ≤ 16000000) (hF : ∀ k, F k → W.heap.size ≤ k) (hmW : W.heap.size ≤ m) (nm : ¬ F m) (Sx : Nat → Prop) (hSx : ∀ k, Sx k → k < W3.heap.size ∧ ¬ F k ∧ k ≠ m) (hok : ∀ t ∈ L, ∀ k ∈ t.ks, k.ok ∧ isO k.obj) (h64 : L.length ≤ 64) (h4k : ∀ t ∈ L, t.ks.length ≤ 4096) (hgi : GI next cs ch) :
    ∃ tl, Lists X tv0 tl ∧ tooLongB tl = false ∧ ∀ Y G r tv ths vbs, Made X Y G r m b tv tl ths vbs tl.length → ths.length = tl.length →
      ∃ cl vb pv c0 qv, REx Sx l.length W W3 m b L picks 0 next cs ch Y sv r cl vb pv c0 Y qv := by
  obtain ⟨rv, qv, rm, qm, cl, pv, σ, D, tg, B, S⟩ := h
  have hL : ∀ i, i < L.length → ∃ t, L[i]? = some t := fun i hi => ⟨_, List.getElem?_eq_getElem hi⟩
  have hst : ∀ i j, i < L.length → j < cl i → ∃ t k, L[i]? = some t ∧ t.ks[j]? = some k ∧ σ i j = k.start := fun i j hi hj => by
    obtain ⟨t, ht⟩ := hL i hi
    obtain ⟨h1, h2, h3, h4⟩ := S i t hi ht
    have hj' : j < t.ks.length := by omega
    exact ⟨t, _, ht, List.getElem?_eq_getElem hj', h4 j _ (List.getElem?_eq_getElem hj')⟩
  have tll : (tlOf L.length rv cl pv).length = L.length := by simp [tlOf]
  refine ⟨tlOf L.length rv cl pv, B.lists (fun i hi => ?_), ?_, fun Y G r tv ths vbs M hl => ?_⟩
  · obtain ⟨t, ht⟩ := hL i hi
    obtain ⟨h1, h2, h3, _⟩ := S i t hi ht
    omega
  · unfold tooLongB
    rw [tll]
    simp only [Bool.or_eq_false_iff, decide_eq_false_iff_not, List.any_eq_false]
    refine ⟨by omega, fun x hx => ?_⟩
    simp only [tlOf, List.mem_map, List.mem_range] at hx
    obtain ⟨i, hi, rfl⟩ := hx
    obtain ⟨t, ht⟩ := hL i hi
    have := h4k t (List.mem_of_getElem? ht)
    have := (S i t hi ht).2.2.1
    simp
    omega
  · rw [tll] at M hl
    refine ⟨cl, _, pv, _, qv, gl_startx picks hC hm hb hll hF hmW nm Sx hSx B M hl (fun i j hi hj => ?_), ?_, fun i hi => ?_, fun i t ht => ?_, fun i j t q ht hq => ?_, ⟨hgi, fun i j hi hj => ?_, fun i j hi hj _ => ?_⟩, rfl, rfl, by simp, B.chg.trans M.chg (fun _ _ x => x) (fun _ _ x => x)⟩
    · obtain ⟨t, k, ht, hk, e⟩ := hst i j hi hj
      rw [e]
      exact CallV.start_ok (hok t (List.mem_of_getElem? ht) k (List.mem_of_getElem? hk)).1
    · exact row_kept B.outer2 fun k e => M.chg.block k (row_lt B.outer2 k e) (fun x => x)
    · obtain ⟨t, ht⟩ := hL i hi
      obtain ⟨h1, h2, h3, _⟩ := S i t hi ht
      have z := B.inner2 i hi
      rw [show qm i = cl i by omega] at z
      exact row_kept z fun k e => M.chg.block k (row_lt z k e) (fun x => x)
    · exact (S i t (List.getElem?_eq_some_iff.1 ht).1 ht).2.2.1
    · exact (S i t (List.getElem?_eq_some_iff.1 ht).1 ht).2.2.2 j q hq
    · obtain ⟨t, k, ht, hk, e⟩ := hst i j hi hj
      show VP.pp _ _ _ _ _ (σ i j)
      rw [e]
      exact (CallV.start_pp (hok t (List.mem_of_getElem? ht) k (List.mem_of_getElem? hk)).2 _ _ _ _ _).1
    · obtain ⟨t, k, ht, hk, e⟩ := hst i j hi hj
      show VP.on (σ i j)
      rw [e]
      exact (CallV.start_pp (hok t (List.mem_of_getElem? ht) k (List.mem_of_getElem? hk)).2 0 [] (fun _ => []) (fun _ => (0, 0)) (0, 0)).2
set_option maxRecDepth 100000 in
set_option maxHeartbeats 8000000 in
theorem v_runx (pt pp : Option Addr) (ct cp : Nat) (L : List ThrV) (picks l : List Int) (W W3 : World) (m b next : Nat) (F : Nat → Prop) (cs : List Nat) (tr : List Acc) (ch : Nat → List Nat)
    (hC : Chg (fun _ => False) W W3) (hT : ThsAt W pt L) (hP : IReads W pp l) (hl : ∀ (i : Nat) (x : Int), l[i]? = some x → picks[i]? = some x) (hln : l.length ≤ 1048576) (hm : IsMem W3 m b) (hb : Bank W3 F b 16384 next cs tr) (hll : tr.length ≤ 16000000) (hF : ∀ k, F k → W.heap.size ≤ k) (hmW : W.heap.size ≤ m) (nm : ¬ F m) (Sx : Nat → Prop) (hSx : ∀ k, Sx k → k < W3.heap.size ∧ ¬ F k ∧ k ≠ m) (hk : ∀ t ∈ L, ∀ k ∈ t.ks, 0 ≤ k.kind ∧ k.kind ≤ 3) (h64 : L.length ≤ 64) (h4k : ∀ t ∈ L, t.ks.length ≤ 4096) (hgi : GI next cs ch) :
    Calls Try.prog 10 #[.pointer (some ⟨m, 0, none⟩), .int .u64 1, .agg #[.slice pt L.length ct, .slice pp l.length cp]] W3 fun e W' => ∃ sv r R cl vb pv c0 Z qv, e = .returned (.tuple #[sv, .pointer (some ⟨r, 0, none⟩)]) ∧ R.map ThrV.ks = L.map (fun t => t.ks.map CallV.pl) ∧ REx Sx tr.length W W3 m b R picks l.length next cs ch W' sv r cl vb pv c0 Z qv := by
  obtain ⟨i0, hi, hz0, hz1, hz2⟩ := info_parts infoPs
  obtain ⟨j0, hj, hy0, hy1, hy2⟩ := info_parts infoP
  obtain ⟨u0, hu, hx0, hx1, hx2⟩ := info_parts infoPrs
  obtain ⟨v0, hv, hw0, hw1, hw2⟩ := info_parts infoPr
  have HC := keepH hC
  have HT := keepH hT
  have HP := keepH hP
  have HL := keepH hl
  have HMm := keepH hm
  have HB := keepH hb
  have HF := keepH hF
  have HN := keepH nm
  have HK := keepH hk
  have H4 := keepH h4k
  have HG := keepH hgi
  have Hmw := keepH hmW
  have Htr := keepH hll
  have HSx := keepH hSx
  clear hC hT hP hl hm hb hF nm hk h4k hgi hmW hll hSx
  go_enter Try.func10, Try.ntmps10
  obtain ⟨W4, hW4⟩ : ∃ W4, W4 = W3.alloc (.cells #[.slice pt L.length ct, .slice pp l.length cp] 25) := ⟨_, rfl⟩
  have C4 : Hid (Chg (fun _ => False) W3 W4) := by rw [hW4]; exact (Chg.refl _ _).alloc _
  have hb4 : Hid (W4.heap[W3.heap.size]? = some (.cells #[.slice pt L.length ct, .slice pp l.length cp] 25 (0, 0))) := by rw [hW4]; exact heap_alloc_new _ _
  go_wp2_with fail
  rw [← hW4]
  refine (v_placed pt ct L W4 (HT.out.chg (HC.out.trans C4.out (fun _ _ x => x) (fun _ _ x => x))) (by omega)).mono ?_
  rintro e W5 ⟨p', c', R, rfl, PB5, hR⟩
  obtain ⟨hRl, hRm⟩ := placed_len hR
  have HR := keepH hR
  have HRm := keepH hRm
  have hR64 : R.length ≤ 64 := by omega
  have C5 : Hid (Chg (fun _ => False) W W5) := (HC.out.trans C4.out (fun _ _ x => x) (fun _ _ x => x)).trans PB5.chg (fun _ _ x => x) (fun _ _ x => x)
  have C35 : Hid (Chg (fun _ => False) W3 W5) := C4.out.trans PB5.chg (fun _ _ x => x) (fun _ _ x => x)
  have hb5 : Hid (W5.heap[W3.heap.size]? = some (.cells #[.slice pt L.length ct, .slice pp l.length cp] 25 (0, 0))) := (PB5.chg.block _ (lt_of hb4.out) (fun x => x)).trans hb4.out
  have HRo : Hid (∀ t ∈ R, ∀ k ∈ t.ks, k.ok ∧ isO k.obj) := fun t ht k hk => by
    obtain ⟨u, hu, e⟩ := HRm.out t ht
    rw [e] at hk
    obtain ⟨q, hq, rfl⟩ := List.mem_map.1 hk
    have z := HT.out.ok u hu q hq
    exact ⟨⟨by have := q.pl_o; exact Nat.lt_of_le_of_lt this.2 (by omega), z.a, z.b⟩, q.pl_o⟩
  have HRk : Hid (∀ t ∈ R, ∀ k ∈ t.ks, 0 ≤ k.kind ∧ k.kind ≤ 3) := fun t ht k hk => by
    obtain ⟨u, hu, e⟩ := HRm.out t ht
    rw [e] at hk
    obtain ⟨q, hq, rfl⟩ := List.mem_map.1 hk
    exact HK.out u hu q hq
  have HR4 : Hid (∀ t ∈ R, t.ks.length ≤ 4096) := fun t ht => by
    obtain ⟨u, hu, e⟩ := HRm.out t ht
    rw [e, List.length_map]
    exact H4.out u hu
  have HTR : Hid (ThsAt W5 p' R) := PB5.at rfl (fun t ht => by have := HR4.out t ht; omega) (fun t ht k hk => (HRo.out t ht k hk).1)
  have HRl := keepH hRl
  clear PB5 hR hRm hW4 hRl
  go_wp2_with fail
  go_loopw [8, 9, 11] (fun sv tv xv wr => ∃ n : Nat, n ≤ R.length ∧ xv = .int .i64 (n : Int) ∧ Hid (OB W5 wr R n tv sv)) (fun _ _ xv _ => R.length - (intOf xv).toNat)
  case atStart => exact ⟨0, by omega, rfl, OB.start W5 R⟩
  case round =>
    obtain ⟨n, hn, rfl, HO⟩ := hrel
    obtain ⟨⟨vals9, hro9⟩, vals8, hro8⟩ := HO.out.outer
    obtain ⟨p9, c9, hv9⟩ := slice_of hro9
    obtain ⟨p8, c8, hv8⟩ := slice_of hro8
    subst hv9 hv8
    clear hro9 hro8
    by_cases hlt : n < R.length
    · have t1 : (n : Int) < (R.length : Int) := by omega
      obtain ⟨t, ht⟩ : ∃ t, R[n]? = some t := ⟨R[n], List.getElem?_eq_getElem hlt⟩
      have HTt := keepH ht
      have mt := List.mem_of_getElem? ht
      have hlen : t.ks.length ≤ 4096 := HR4.out t mt
      obtain ⟨bk, off, hp, hb, hc0⟩ := HTR.out.row.resolve_left (fun e => by rw [e] at hlt; simp at hlt)
      subst hp
      have HCc : Hid (W5.cell? ⟨bk, off + n, none⟩ = some (.slice t.p t.ks.length t.c)) := hc0 n t ht
      have HKt := keepH (HTR.out.ks t mt)
      have HKk := keepH (HRk.out t mt)
      clear hc0 hb ht mt
      have HI0 := keepH (HO.out.row t)
      have hc : wr.cell? ⟨bk, off + n, none⟩ = some (.slice t.p t.ks.length t.c) := cell_chg HO.out.chg HCc.out (fun x => x)
      clear HO
      go_wp2_with fail
      go_loopw [12, 13, 14] (fun wv lv xv wi => ∃ k : Nat, k ≤ t.ks.length ∧ xv = .int .i64 (k : Int) ∧ Hid (IB W5 wi R n t k (.slice p9 n c9) (.slice p8 n c8) lv wv)) (fun _ _ xv _ => t.ks.length - (intOf xv).toNat)
      case atStart => exact ⟨0, by omega, rfl, HI0⟩
      case round =>
        obtain ⟨k, hk, rfl, HI⟩ := hrel
        have Cn := keepH HI.out.chg
        have hc2 : wr.cell? ⟨bk, off + n, none⟩ = some (.slice t.p t.ks.length t.c) := cell_chg Cn.out HCc.out (fun x => x)
        obtain ⟨⟨xs', hrx⟩, ys', hry⟩ := HI.out.rows
        obtain ⟨p13, c13, hv13⟩ := slice_of hrx
        obtain ⟨p12, c12, hv12⟩ := slice_of hry
        subst hv13 hv12
        clear hrx hry
        by_cases hk2 : k < t.ks.length
        · have t2 : (k : Int) < (t.ks.length : Int) := by omega
          obtain ⟨q, hq⟩ : ∃ q, t.ks[k]? = some q := ⟨t.ks[k], List.getElem?_eq_getElem hk2⟩
          have HCK := keepH hq
          have HQk := keepH (HKk.out q (List.mem_of_getElem? hq))
          obtain ⟨xs, ys, hrow, hrow2, huse⟩ := HI.out.use
          obtain ⟨bk2, off2, hp2, hb2, hcc⟩ := HKt.out.resolve_left (fun e => by rw [e] at hk2; simp at hk2)
          have hcell : ∀ (j : Nat) (u : Value), q.cells[j]? = some u → wr.cell? ⟨bk2, off2 + k * 4 + j, none⟩ = some u := fun j u hj => by rw [Nat.add_assoc]; exact cell_chg Cn.out (hcc k q hq j u hj) (fun x => x)
          have d0 : wr.cell? ⟨bk2, off2 + k * 4, none⟩ = some (.int .i64 q.kind) := hcell 0 _ rfl
          have d1 : wr.cell? ⟨bk2, off2 + k * 4 + 1, none⟩ = some (.int .u64 (q.obj : Int)) := hcell 1 _ rfl
          have d2 : wr.cell? ⟨bk2, off2 + k * 4 + 2, none⟩ = some (.int .u64 (q.a : Int)) := hcell 2 _ rfl
          have d3 : wr.cell? ⟨bk2, off2 + k * 4 + 3, none⟩ = some (.int .u64 (q.b : Int)) := hcell 3 _ rfl
          have HUse := keepH huse
          rw [hp2] at hc2
          clear hrow hrow2 huse hcell hcc hq hp2 hb2
          go_wp2_with fail
          refine (v_begin q HQk.out wr).mono ?_
          rintro e w2 ⟨pw, Dn, rfl, PN⟩
          obtain ⟨a0, a1, a2, a3, a4, a5, ea⟩ := prOf_one PN.ifc
          obtain ⟨Ty, pa, hpw⟩ := PN.ifc
          have HU2 := keepH (fun Y' cY => HUse.out w2 _ _ Dn Y' PN (fun c' hc' => by rw [HCK.out] at hc'; simp at hc'; rw [hc']) cY)
          have HEA := keepH ea
          rw [ea] at HU2 ⊢
          clear PN d0 d1 d2 d3 HUse ea
          have hm : k + 1 ≤ maxLen := by unfold maxLen; omega
          have hby6 : (k + 1) * 48 ≤ 140737488355328 := by omega
          have hby1 : (k + 1) * 16 ≤ 140737488355328 := by omega
          subst hpw
          obtain ⟨row2, nxt2⟩ := HU2.out (w2.alloc (.cells #[.int .i64 a0, .pointer a1, .pointer a2, .pointer a3, .pointer a4, .pointer a5] 58)) ((Chg.refl _ _).alloc _)
          have HR2 := keepH row2
          have HN2 := keepH nxt2
          clear row2 nxt2 HU2 HEA
          go_wp2_with (at_builtin; first
            | (refine wpList_append_own_at _ rfl _ _ 47 rfl 0 58 v0 (.agg #[.int .i64 0, .pointer none, .pointer none, .pointer none, .pointer none, .pointer none]) 6 48 Try.underlying47 hv hw0 hw1 hw2 rfl (by decide) (.slice p12 k c12) k _ rfl (HR2.out.alloc _) ⟨w2.heap.size + 1, 0, none⟩ 1 1 [.int .i64 a0, .pointer a1, .pointer a2, .pointer a3, .pointer a4, .pointer a5] rfl rfl (fun j u hj => cells_new _ _ (by simp) _ _ j u (by simpa using hj)) (by simp [Value.oneCell']) hm hby6 (Nat.zero_le _) ?_; intro v2 w3 r1 r2 r3 r4; obtain ⟨g2, d2, rfl⟩ := slice_pos r1 (Nat.succ_pos _); obtain ⟨row1, nxt1⟩ := HN2.out _ w3 _ r1 r2 (fun b e => r4.elim (fun e2 => .inl (by rw [e2] at e; exact e)) (fun e2 => .inr (by rw [e2] at e; simp at e ⊢; omega))); have HR1 := keepH row1; have HN1 := keepH nxt1; clear r1 r2 r3 r4 row1 nxt1)
            | (refine wpList_append_own_at _ rfl _ _ 77 rfl 0 79 j0 .nilIface 1 16 Try.underlying77 hj hy0 hy1 hy2 rfl (by decide) (.slice p13 k c13) k _ rfl (HR1.out.alloc _) ⟨w3.heap.size, 0, none⟩ 1 1 [.iface Ty (.pointer (some ⟨pa, 0, none⟩))] rfl rfl (fun j u hj => cells_new _ _ (by simp) _ _ j u (by simpa using hj)) (by simp [Value.oneCell']) hm hby1 (Nat.zero_le _) ?_; intro v1 w4 r1 r2 r3 r4; obtain ⟨g1, d1, rfl⟩ := slice_pos r1 (Nat.succ_pos _); have R1 := keepH r1; have R2 := keepH r2; have R4 := keepH r4; clear r1 r2 r3 r4))
          refine ⟨⟨k + 1, by omega, by simp, HN1.out _ _ _ R1.out R2.out (fun b e => ?_)⟩, by simp [intOf]; omega⟩
          rcases R4.out with e2 | e2
          · rw [e2] at e
            exact .inl e
          · rw [e2] at e
            simp at e
            exact .inr (by omega)
        · have t2 : ¬ (k : Int) < (t.ks.length : Int) := by omega
          have ek : k = t.ks.length := by omega
          subst ek
          obtain ⟨vals, ws, rowo, nxt⟩ := HI.out.close HTt.out
          have HRo2 := keepH rowo
          have HNo := keepH nxt
          have hm : n + 1 ≤ maxLen := by unfold maxLen; omega
          have hby : (n + 1) * 24 ≤ 140737488355328 := by omega
          clear rowo nxt HI
          go_wp2_with (at_builtin; first
            | (refine wpList_append_own_at _ rfl _ _ 33 rfl 0 47 u0 (.slice none 0 0) 1 24 Try.underlying33 hu hx0 hx1 hx2 rfl (by decide) (.slice p8 n c8) n _ rfl (HRo2.out.alloc _) ⟨wr.heap.size, 0, none⟩ 1 1 [.slice p12 t.ks.length c12] rfl rfl (fun j u hj => cells_new _ _ (by simp) _ _ j u (by simpa using hj)) (by simp [Value.oneCell']) hm hby (Nat.zero_le _) ?_; intro v2 w3 r1 r2 r3 r4; obtain ⟨g2, d2, rfl⟩ := slice_pos r1 (Nat.succ_pos _); obtain ⟨row1, nxt1⟩ := HNo.out _ w3 _ r1 r2 (fun b e => r4.elim (fun e2 => .inl (by rw [e2] at e; exact e)) (fun e2 => .inr (by rw [e2] at e; simp at e; omega))); have HR1 := keepH row1; have HN1 := keepH nxt1; clear r1 r2 r3 r4 row1 nxt1)
            | (refine wpList_append_own_at _ rfl _ _ 75 rfl 0 77 i0 (.slice none 0 0) 1 24 Try.underlying75 hi hz0 hz1 hz2 rfl (by decide) (.slice p9 n c9) n _ rfl (HR1.out.alloc _) ⟨w3.heap.size, 0, none⟩ 1 1 [.slice p13 t.ks.length c13] rfl rfl (fun j u hj => cells_new _ _ (by simp) _ _ j u (by simpa using hj)) (by simp [Value.oneCell']) hm hby (Nat.zero_le _) ?_; intro v1 w4 r1 r2 r3 r4; obtain ⟨g1, d1, rfl⟩ := slice_pos r1 (Nat.succ_pos _); have R1 := keepH r1; have R2 := keepH r2; have R4 := keepH r4; clear r1 r2 r3 r4))
          refine ⟨⟨n + 1, by omega, by simp, HN1.out _ _ _ R1.out R2.out (fun b e => ?_)⟩, by simp [intOf]; omega⟩
          rcases R4.out with e2 | e2
          · rw [e2] at e
            exact .inl e
          · rw [e2] at e
            simp at e
            exact .inr (by omega)
    · have t1 : ¬ (n : Int) < (R.length : Int) := by omega
      obtain rfl : n = R.length := by omega
      have s35 := C35.out.size
      obtain ⟨tl, hLi, htb, hgo⟩ := HO.out.runx picks C5.out (HMm.out.chg C35.out (fun h => h)) (HB.out.chg C35.out (fun _ _ h => h)) Htr.out HF.out Hmw.out HN.out Sx (fun k e => ⟨Nat.lt_of_lt_of_le (HSx.out k e).1 C35.out.size, (HSx.out k e).2⟩) HRo.out hR64 HR4.out HG.out
      have HMn := keepH ((HMm.out.chg C35.out (fun h => h)).chg HO.out.chg (fun h => h))
      have hb6 : Hid (wr.heap[W3.heap.size]? = some (.cells #[.slice pt L.length ct, .slice pp l.length cp] 25 (0, 0))) := (HO.out.chg.block _ (lt_of hb5.out) (fun x => x)).trans hb5.out
      have HLi := keepH hLi
      have HGo := keepH hgo
      have HTB := keepH htb
      clear hLi hgo htb s35
      go_wp2_with fail
      refine (s_new m b _ tl wr HMn.out HLi.out HTB.out).mono ?_
      rintro e W6 ⟨r, G, tv, ths, vbs, rfl, MD, hl⟩
      have hb7 : W6.heap[W3.heap.size]? = some (.cells #[.slice pt L.length ct, .slice pp l.length cp] 25 (0, 0)) := (MD.chg.block _ (lt_of hb6.out) (fun x => x)).trans hb6.out
      obtain ⟨cl, vb, pv, c0, qv, E⟩ := HGo.out W6 G r tv ths vbs MD hl
      have HE := keepH E
      have x1 : W6.cell? ⟨W3.heap.size, 1, none⟩ = some (.slice pp l.length cp) := cell_of hb7 1
      clear MD hl HGo HLi HMn HO E hb7
      go_wp2_with fail
      refine (gr_run (l := l) (k0 := 0) pp cp HE.out.run HP.out (fun i x h => by rw [Nat.zero_add]; exact HL.out i x h) (by omega)).mono ?_
      rintro e W7 ⟨rfl, G7⟩
      rw [Nat.zero_add] at G7
      have HG7 := keepH G7
      clear G7 x1
      go_wp2_with fail
      go_ret2
      exact ⟨.slice p8 R.length c8, r, R, cl, vb, pv, c0, W6, qv, by simp, HR.out, ⟨HG7.out, HE.out.out, HE.out.inn, HE.out.len, HE.out.sg, HE.out.inv, HE.out.cn, HE.out.cc, HE.out.ct, C35.out.trans HE.out.old (fun _ _ x => x) (fun _ _ x => x)⟩⟩
theorem Cfg.run_len {P : Type} (κ : Kind P) (most T : Nat) (cl : Nat → Nat) (picks : List Int) (c : Cfg P) : (c.run κ most T cl picks).t.length ≤ c.t.length + picks.length := by
  induction picks generalizing c with
  | nil => exact Nat.le_refl _
  | cons x r ih =>
    have h := ih (c.pick κ most T cl x)
    have h1 : (c.pick κ most T cl x).t.length ≤ c.t.length + 1 := by
      unfold Cfg.pick
      split
      · show (c.t ++ (c.out κ most _).acc).length ≤ _
        rw [List.length_append]
        exact Nat.add_le_add_left (κ.few _ _ _ _ _) _
      · omega
    show ((c.pick κ most T cl x).run κ most T cl r).t.length ≤ _
    simp only [List.length_cons]
    omega
/-- The memory behind a run, and what was kept. -/
structure MemE (Sx : Nat → Prop) (W W3 X : World) (m b : Nat) (next : Nat) (cs : List Nat) (n : Nat) (F : Nat → Prop) : Prop where
  mem : IsMem X m b
  bank : ∃ l, Bank X F b 16384 next cs l ∧ l.length ≤ n
  chg : Chg (fun _ => False) W X
  inF : ∀ k, F k → W.heap.size ≤ k
  nm : ¬ F m
  kept : ∀ j, Sx j → X.heap[j]? = W3.heap[j]? ∧ ¬ F j
theorem REx.fin {Sx : Nat → Prop} {n0 : Nat} {W W3 X Z : World} {m b : Nat} {L : List ThrV} {picks : List Int} {k next : Nat} {cs : List Nat} {ch : Nat → List Nat} {sv : Value} {r : Nat} {cl vb : Nat → Nat} {pv : Nat → Nat → Value} {c0 : Cfg VP} {qv : Nat → Value} (h : REx Sx n0 W W3 m b L picks k next cs ch X sv r cl vb pv c0 Z qv) (hS : ∀ j, Sx j → j < W3.heap.size) :
    ∃ F, MemE Sx W W3 X m b (c0.run vcK 16384 L.length cl (picks.take k)).next (c0.run vcK 16384 L.length cl (picks.take k)).cs (n0 + k) F := by
  obtain ⟨G, K, vw, tv, ev, av, ths, evs, ats, g⟩ := h.run
  obtain ⟨F, D, md, tg, M⟩ := g.ma
  obtain ⟨l, B, hl⟩ := M.bank
  have hn := Cfg.run_len vcK 16384 L.length cl (picks.take k) c0
  rw [← hl, h.ct] at hn
  have ht : (picks.take k).length ≤ k := by rw [List.length_take]; omega
  refine ⟨F, M.mem, ⟨l, B, by simpa using Nat.le_trans hn (by omega)⟩, g.chg, fun j e => g.inW j (.inr (M.inF j e).1), fun e => ?_, fun j e => ⟨(g.keep j (.inr e)).2.1.trans (h.old.block j (hS j e) (fun x => x)), fun z => (g.keep j (.inr e)).2.2.2 (M.inF j z).1⟩⟩
  have a := (M.inF m e).2
  have b := M.inM.2
  rw [a] at b
  simp at b
end Go.Proofs.Ytadbgmcfjemkeaa
