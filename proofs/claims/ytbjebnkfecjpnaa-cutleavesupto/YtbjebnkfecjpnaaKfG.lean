/- A Cut: made, told, let take a step; alone. -/
import Derived.Defers
import Derived.Recover
import Derived.Test.YtbjebnkfecjpnaaKeG
namespace Go.Proofs.Ytbjebnkfecjpnaa
open Go.RowKit Go.Shelf
set_option linter.unusedVariables false

theorem infoU64 : (Try.prog.info? 22).map (fun i => (i.zero, i.size, i.bytes)) = some (some (.int .u64 0), 1, 8) := by kernel_rfl
theorem row_u64 {W : World} {v : Value} {l : List Nat} (h : W.ownsRow 0 22 1 v l.length (l.map u64V)) (hs : ∀ x ∈ l, x < 18446744073709551616) : ∃ q c, v = .slice q l.length c ∧ U64At W q l ∧ ∀ bk off, q = some ⟨bk, off, none⟩ → v.ownBlock = some bk := by
  rcases h.2 with ⟨rfl, hn⟩ | ⟨g, cap, cur, rfl, _⟩
  · refine ⟨none, 0, by rw [hn], .inl (List.eq_nil_of_length_eq_zero hn), fun bk off e => by simp at e⟩
  · refine ⟨some ⟨g, 0, none⟩, cap, rfl, ?_, fun bk off e => by simp at e; simp [Value.ownBlock, e.1]⟩
    by_cases e : l = []
    · exact .inl e
    · refine .inr ⟨g, 0, rfl, row_lt h g rfl, fun i x hi => ⟨hs x (List.mem_of_getElem? hi), ?_⟩⟩
      have hl := (List.getElem?_eq_some_iff.1 hi).1
      rw [Nat.zero_add, World.ownsRow.cellAt h i (by omega)]
      simp [u64V, hi]
def CutS.new (obj : Nat) : CutS := ⟨obj, 0, 0, 0, 0, 0, 0, 0, 0⟩

theorem Chg.falls {a b c : World} (h : Chg (fun _ => False) a b) (k : Chg (fun _ => False) b c) : Chg (fun _ => False) a c := h.trans k (fun _ _ x => x) (fun _ _ x => x)
set_option maxRecDepth 100000 in
set_option maxHeartbeats 1000000 in
theorem k_of (obj F : Nat) (q : Option Addr) (n c : Nat) (W : World) : Calls Try.prog 38 #[.int .u64 (obj : Int), .agg #[.int .u64 (F : Int), .slice q n c]] W fun e W' => e = .returned (.agg (cutL F (.slice q n c) (CutS.new obj))) ∧ Chg (fun _ => False) W W' := by
  go_enter Try.func38, Try.ntmps38
  go_wp2_with fail
  exact bodyPost_ret (v := .agg #[.int .u64 (obj : Int), .int .u64 (F : Int), .slice q n c, .int .u8 0, .int .u64 0, .int .u64 0, .int .u64 0, .int .u64 0, .int .u64 0, .int .u64 0, .int .u64 0]) (by simp [results, Try.results38, go_sem]) rfl ⟨rfl, ((Chg.refl _ _).alloc _).alloc _⟩

set_option maxRecDepth 100000 in
set_option maxHeartbeats 2000000 in
theorem k_new (cam obj F : Nat) (p : Option Addr) (c : Nat) (l : List Nat) (W : World) (h : U64At W p l) (hl : l.length ≤ 17592186043904) (hs : ∀ x ∈ l, x < 18446744073709551616) :
    Calls Try.prog 15 #[.int .u64 (cam : Int), .int .u64 (obj : Int), .agg #[.int .u64 (F : Int), .slice p l.length c]] W fun e W' => ∃ (b : Nat) (q : Option Addr) (d : Nat), e = .returned (.pointer (some ⟨b, 0, none⟩)) ∧ W.heap.size ≤ b ∧ IsCut W' b F (.slice q l.length d) (CutS.new obj) ∧ U64At W' q l ∧ (∀ bk off, q = some ⟨bk, off, none⟩ → l ≠ [] → bk ≠ b ∧ W.heap.size ≤ bk) ∧ Chg (fun _ => False) W W' := by
  obtain ⟨i0, hi, hz0, hz1, hz2⟩ := info_parts infoU64
  obtain ⟨W1, hW1⟩ : ∃ W1, W1 = W.alloc (.cells #[.int .u64 (F : Int), .slice p l.length c] 25) := ⟨_, rfl⟩
  have HB1 : Hid (W1.heap[W.heap.size]? = some (.cells #[.int .u64 (F : Int), .slice p l.length c] 25 (0, 0))) := by rw [hW1]; exact heap_alloc_new _ _
  have HC1 : Hid (Chg (fun _ => False) W W1) := by rw [hW1]; exact (Chg.refl _ _).alloc _
  have HZ1 : Hid (W1.heap.size = W.heap.size + 1) := by rw [hW1]; exact World.size_alloc _ _
  have HR1 : Hid (Reads W1 p l) := (h.chg HC1.out (fun _ _ _ _ x => x)).reads
  have c1 : W1.cell? ⟨W.heap.size, 1, none⟩ = some (.slice p l.length c) := cell_of HB1.out 1
  have HW1 := keepH hW1
  obtain ⟨v, W2, hrun, HV⟩ : ∃ v W2, (∀ ty, (Builtin.append_ #[23, 23] ty #[.slice none 0 0, .slice p l.length c]).run Try.prog W1 = .ok v W2) ∧ Hid (W2.ownsRow 0 22 1 v l.length (l.map u64V) ∧ W1.grownBy W2 none ∧ (v.ownBlock = none ∨ v.ownBlock = some W1.heap.size)) := by
    rcases HR1.out with e | ⟨ad, rfl, hr⟩
    · subst e
      exact ⟨_, _, fun ty => run_append_empty (P := Try.prog) W1 23 ty 22 i0 Try.underlying23 hi p c, keepH ⟨World.ownsRow_nil _ _ _ _, ⟨rfl, rfl, rfl, Nat.le_refl _, fun _ _ _ => rfl⟩, .inl rfl⟩⟩
    · obtain ⟨v', w', hr, h2, h3, h4, h5⟩ := run_append_own_at (P := Try.prog) W1 0 23 23 22 i0 (.int .u64 0) 1 8 Try.underlying23 hi hz0 hz1 hz2 rfl (by decide) (.slice none 0 0) 0 [] (World.ownsRow_nil _ _ _ _) ad l.length c (l.map u64V) (by simp) hr (by intro u hu; obtain ⟨x, _, rfl⟩ := List.mem_map.1 hu; rfl) (by unfold maxLen; omega) (by omega) (Nat.zero_le _)
      refine ⟨v', w', fun ty => ?_, keepH ⟨by simpa using h2, h3, h5⟩⟩
      exact hr
  obtain ⟨q, d, hv, hU, hq⟩ := row_u64 HV.out.1 hs
  subst hv
  have HU := keepH hU
  have HQ : Hid (∀ bk off, q = some ⟨bk, off, none⟩ → bk = W.heap.size + 1) := fun bk off e => by
    have e1 := hq bk off e
    rcases HV.out.2.2 with e2 | e2
    · rw [e1] at e2; simp at e2
    · rw [e1, HZ1.out] at e2; simpa using e2
  have HC2 : Hid (Chg (fun _ => False) W1 W2) := (Chg.refl _ W1).grown HV.out.2.1 (fun _ e => by simp at e)
  have HB2 := keepH ((HC2.out.block _ (lt_of HB1.out) (fun x => x)).trans HB1.out)
  have d1 : W2.cell? ⟨W.heap.size, 1, none⟩ = some (.slice p l.length c) := cell_of HB2.out 1
  have f1 := free_of HB2.out 1
  obtain ⟨W3, hW3⟩ : ∃ W3, W3 = W2.setCell ⟨W.heap.size, 1, none⟩ (.slice q l.length d) := ⟨_, rfl⟩
  have HB3 : Hid (W3.heap[W.heap.size]? = some (.cells #[.int .u64 (F : Int), .slice q l.length d] 25 (0, 0))) := by rw [hW3]; exact set_of HB2.out 1 _
  have HC3 : Hid (Chg (fun _ => False) W W3) := by
    rw [hW3]
    exact (HC1.out.falls HC2.out).setCell (p := ⟨W.heap.size, 1, none⟩) (fun x => absurd x (Nat.lt_irrefl _)) _
  have HU3 : Hid (U64At W3 q l) := by
    rw [hW3]
    exact HU.out.chg (setP (p := W.heap.size) (i := 1) _) (fun bk off e hn z => by have := HQ.out bk off e; omega)
  have g0 : W3.cell? ⟨W.heap.size, 0, none⟩ = some (.int .u64 (F : Int)) := cell_of HB3.out 0
  have g1 : W3.cell? ⟨W.heap.size, 1, none⟩ = some (.slice q l.length d) := cell_of HB3.out 1
  have HW3 := keepH hW3
  have HZ3 : Hid (W.heap.size + 1 ≤ W3.heap.size) := by have := lt_of HB3.out; exact this
  clear hW1 hW3 hU hq h HV
  go_enter Try.func15, Try.ntmps15
  go_upto_region 1 with fail
  rw [← HW1.out]
  clear HW1
  go_upto_region 2 with (at_builtin; refine Lib.wpList_append_run _ rfl _ _ 23 23 rfl (.slice none 0 0) (.slice p l.length c) rfl rfl _ _ (hrun _) ?_)
  rw [← HW3.out]
  clear HW3 hrun c1 d1 f1
  go_wp2_with fail
  refine (k_of obj F q l.length d _).mono ?_
  rintro e W4 ⟨rfl, C4⟩
  have HC4 := keepH (HC3.out.falls C4)
  have HU4 := keepH (HU3.out.chg C4 (fun _ _ _ _ x => x))
  have HZ4 : Hid (W3.heap.size ≤ W4.heap.size) := C4.size
  clear C4
  unfold cutL CutS.new
  go_wp2_with fail
  go_ret
  refine ⟨W4.heap.size, q, d, by simp, ?_, heap_alloc_new _ _, HU4.out.chg ((Chg.refl (fun _ => False) _).alloc _) (fun _ _ _ _ x => x), fun bk off e hn => ?_, HC4.out.alloc _⟩
  · have := HZ3.out; have := HZ4.out; omega
  · have := HQ.out bk off e; have := HZ3.out; have := HZ4.out
    rcases HU4.out with z | ⟨bk', off', e', hb, _⟩
    · exact absurd z hn
    · rw [e] at e'
      simp at e'
      omega

set_option maxRecDepth 100000 in
theorem k_count (p F : Nat) (sv : Value) (s : CutS) (W : World) (h : IsCut W p F sv s) (h7 : s.nx = 7) : Calls Try.prog 18 #[.pointer (some ⟨p, 0, none⟩)] W fun e W' => e = .returned (.int .u64 (s.cnt : Int)) ∧ W' = W := by
  have c3 : W.cell? ⟨p, 3, none⟩ = some (.int .u8 7) := by rw [cell_of h 3]; simp [cutL, h7]
  have c5 : W.cell? ⟨p, 5, none⟩ = some (.int .u64 (s.cnt : Int)) := cell_of h 5
  clear h
  go_enter Try.func18, Try.ntmps18
  go_wp2_with fail
  go_ret
  exact ⟨by simp, rfl⟩
set_option maxRecDepth 100000 in
theorem k_head (p F : Nat) (sv : Value) (s : CutS) (W : World) (h : IsCut W p F sv s) (h7 : s.nx = 7) : Calls Try.prog 19 #[.pointer (some ⟨p, 0, none⟩)] W fun e W' => e = .returned (.int .u64 (s.head : Int)) ∧ W' = W := by
  have c3 : W.cell? ⟨p, 3, none⟩ = some (.int .u8 7) := by rw [cell_of h 3]; simp [cutL, h7]
  have c4 : W.cell? ⟨p, 4, none⟩ = some (.int .u64 (s.head : Int)) := cell_of h 4
  clear h
  go_enter Try.func19, Try.ntmps19
  go_wp2_with fail
  go_ret
  exact ⟨by simp, rfl⟩
set_option maxRecDepth 100000 in
theorem k_count0 (p F : Nat) (sv : Value) (s : CutS) (W : World) (h : IsCut W p F sv s) (h7 : s.nx ≠ 7) : Calls Try.prog 18 #[.pointer (some ⟨p, 0, none⟩)] W fun e W' => e = .returned (.int .u64 0) ∧ W' = W := by
  have c3 : W.cell? ⟨p, 3, none⟩ = some (.int .u8 (s.nx : Int)) := cell_of h 3
  have e7 : ((s.nx : Int) != 7) = true := bne_iff_ne.2 (by omega)
  clear h
  go_enter Try.func18, Try.ntmps18
  go_wp2_with fail
  go_ret
  exact ⟨by simp, rfl⟩
set_option maxRecDepth 100000 in
theorem k_head0 (p F : Nat) (sv : Value) (s : CutS) (W : World) (h : IsCut W p F sv s) (h7 : s.nx ≠ 7) : Calls Try.prog 19 #[.pointer (some ⟨p, 0, none⟩)] W fun e W' => e = .returned (.int .u64 0) ∧ W' = W := by
  have c3 : W.cell? ⟨p, 3, none⟩ = some (.int .u8 (s.nx : Int)) := cell_of h 3
  have e7 : ((s.nx : Int) != 7) = true := bne_iff_ne.2 (by omega)
  clear h
  go_enter Try.func19, Try.ntmps19
  go_wp2_with fail
  go_ret
  exact ⟨by simp, rfl⟩
theorem mt_step_cut (a : Addr) (w : World) : (method 292 39 (.pointer (some a)) "Step").run Try.prog w = .ok (16, .pointer (some a)) w := by kernel_rfl
set_option maxRecDepth 100000 in
theorem so_cut (p : Nat) (v : Value) (d : Bool) (K : World → Prop) (W : World)
    (hK : Calls Try.prog 16 #[.pointer (some ⟨p, 0, none⟩), v] (W.alloc (.cells #[.bool false] 4)) fun e W' => e = .returned (.bool d) ∧ K W' ∧ W'.heap[W.heap.size]? = (W.alloc (.cells #[.bool false] 4)).heap[W.heap.size]?) :
    Calls Try.prog 49 #[.iface 39 (.pointer (some ⟨p, 0, none⟩)), v] W fun e W' => e = .returned (.bool d) ∧ ∃ W1, K W1 ∧ W' = W1.setCell ⟨W.heap.size, 0, none⟩ (.bool d) := by
  have hmf : ∀ (fn : Fn) (first cap : Array Value) (w : World), (Instr.makeFunc fn first cap).run Try.prog w = .ok (.func fn first cap) w := fun _ _ _ _ => rfl
  have hm := mt_step_cut ⟨p, 0, none⟩
  have HK := keepH hK
  clear hK
  go_enter_defers Try.func49, Try.ntmps49
  go_wp2_with fail
  refine HK.out.mono ?_
  rintro e W1 ⟨rfl, hR, hb0⟩
  have hb : W1.heap[W.heap.size]? = some (.cells #[.bool false] 4 (0, 0)) := hb0.trans (heap_alloc_new _ _)
  have c0 : W1.cell? ⟨W.heap.size, 0, none⟩ = some (.bool false) := cell_of hb 0
  have f0 := free_of hb 0
  have HR := keepH hR
  clear hR hb hb0
  go_wp2_with fail
  refine leaves_cons (f := 59) (args := #[.pointer (some ⟨W.heap.size, 0, none⟩)]) (by simp) (by simp [go_sem]) ?_
  refine (s_catch ⟨W.heap.size, 0, none⟩ _).mono ?_
  rintro e u' w'' ⟨rfl, rfl, rfl⟩
  have r0 := World.cell?_setCell_same' W1 ⟨W.heap.size, 0, none⟩ (.bool d) (by rw [c0]; rfl)
  simp [Leaves, settle, results, Try.results49, go_sem, r0]
  exact ⟨W1, HR.out, rfl⟩

set_option maxRecDepth 100000 in
set_option maxHeartbeats 1000000 in
/-- A proc alone, by a number that falls each step. -/
theorem alone_falls (P V : Value) (Inv : Nat → World → Prop) (End : World → Prop) (n most : Nat) (hn : n < most) (hm : most < 4611686018427387904) (W : World) (h0 : Inv n W) (hst : ∀ k w, k ≤ n → Inv k w → ∃ d : Bool, Calls Try.prog 49 #[P, V] w fun e w' => e = .returned (.bool d) ∧ ((d = true ∧ End w') ∨ (d = false ∧ ∃ j, j < k ∧ Inv j w'))) :
    Calls Try.prog 25 #[V, P, .int .i64 (most : Int)] W fun e W' => e = .returned (.bool true) ∧ End W' := by
  have H0 := keepH h0
  have HS := keepH hst
  clear h0 hst
  go_enter Try.func25, Try.ntmps25
  go_wp2_with fail
  go_loopw [8] (fun s wr => ∃ i j : Nat, i + j ≤ n ∧ s = .int .i64 (i : Int) ∧ Hid (Inv j wr)) (fun s _ => n + 1 - (intOf s).toNat)
  case atStart => exact ⟨0, n, by omega, rfl, H0⟩
  case round =>
    obtain ⟨i, j, hij, rfl, HI⟩ := hrel
    have i1 : (i : Int) < (most : Int) := by omega
    obtain ⟨d, hd⟩ := HS.out j _ (by omega) HI.out
    have HD := keepH hd
    clear hd
    cases d with
    | true =>
      go_wp2_with fail
      refine HD.out.mono ?_
      rintro e w ⟨rfl, hI⟩
      have HE : Hid (End w) := by
        rcases hI with ⟨_, hI⟩ | ⟨hI, _⟩
        · exact hI
        · simp at hI
      clear hI
      go_wp2_with fail
      go_ret
      exact ⟨by simp, HE.out⟩
    | false =>
      go_wp2_with fail
      refine HD.out.mono ?_
      rintro e w ⟨rfl, hI⟩
      have HE : Hid (∃ k, k < j ∧ Inv k w) := by
        rcases hI with ⟨hI, _⟩ | ⟨_, hI⟩
        · simp at hI
        · exact hI
      clear hI
      go_wp2_with fail
      go_roundw
      case rel =>
        obtain ⟨k, hk, hI⟩ := HE.out
        exact ⟨i + 1, k, by omega, by first | rfl | go_num, keepH hI⟩
      case measure => simp [intOf]; omega
end Go.Proofs.Ytbjebnkfecjpnaa
