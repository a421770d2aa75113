/- The document's reading of a line. (mkRuj.py) -/
import Derived.Test.YtdgagpcofghbaaaGreatDoorRui
import Derived.Laws.Tables
import Derived.Deep.CutRange
import Derived.Deep.CutBlock
namespace Go.Proofs.YtdgagpcofghbaaaGreatDoor
open Go.RowKit Go.Shelf
set_option linter.unusedVariables false

theorem RS.at {W : World} {rb AB fb n cap : Nat} {ws : List (List UInt8)} {y : Ax} {vs : Value} {wr : World} (h : RS W rb AB (.slice (some ⟨fb, 0, none⟩) n cap) ws y vs wr) {j : Nat} {f : List UInt8} (hn : n = ws.length) (hj : ws[j]? = some f) : wr.cell? ⟨fb, j, none⟩ = some (.string (mkS f)) := by
  have h0 := h.row
  rw [← hn] at h0
  have hlt := (List.getElem?_eq_some_iff.1 hj).1
  rw [World.ownsRow.cellAt h0 j (by omega)]
  simp [strsRow, hj]
theorem RS.number {W : World} {rb AB : Nat} {wv : Value} {ws : List (List UInt8)} {y : Ax} {vs : Value} {wr : World} (h : RS W rb AB wv ws y vs wr) (T : Tb W) (f : List UInt8) (hf : f.length ≤ 200000000) : Calls Tryz.prog 46 #[.string (mkS f)] wr fun e w' => ∃ v, e = .returned v ∧ NumQ f v ∧ RS W rb AB wv ws y vs w' := by
  refine (d_number f hf wr (T.on h.bel)).mono ?_
  rintro e w' ⟨v, rfl, hq, hb⟩
  exact ⟨v, rfl, hq, h.on hb⟩
theorem RS.dn {W : World} {rb AB : Nat} {wv : Value} {ws : List (List UInt8)} {y : Ax} {vs : Value} {wr : World} (h : RS W rb AB wv ws y vs wr) (m : Nat) : RS W rb AB wv ws y vs (wr.drewN m) := h.on (below_drewN (Below.refl _ _) m)
theorem RS.word {W : World} {rb AB : Nat} {wv : Value} {ws : List (List UInt8)} {y : Ax} {vs : Value} {wr : World} (h : RS W rb AB wv ws y vs wr) (k : Nat) (hk : 1 ≤ k ∧ k ≤ 5) : Calls Tryz.prog 37 #[.int .u8 (k : Int)] wr fun e w' => e = .returned (.string (mkS (wordL k))) ∧ RS W rb AB wv ws y vs w' := by
  refine (d_word k hk wr).mono ?_
  rintro e w' ⟨rfl, hb⟩
  exact ⟨rfl, h.on hb⟩
theorem RS.right {W : World} {rb AB : Nat} {wv : Value} {ws : List (List UInt8)} {y : Ax} {p : Option Addr} {n c : Nat} {wr : World} (h : RS W rb AB wv ws y (.slice p n c) wr) (hn : n = y.vals.length) (hl : y.vals.length ≤ 1048576) : Calls Tryz.prog 18 #[.agg (bxA y (.slice p n c))] wr fun e w' => ∃ v, e = .returned v ∧ RightQ y v ∧ RS W rb AB wv ws y (.slice p n c) w' := by
  subst hn
  refine (d_right y p c wr (URd.of_row h.vrow) hl).mono ?_
  rintro e w' ⟨v, rfl, hq, hb⟩
  exact ⟨v, rfl, hq, h.on hb⟩
theorem RS.line {W : World} {rb AB : Nat} {wv : Value} {ws : List (List UInt8)} {y : Ax} {p : Option Addr} {n c : Nat} {wr : World} (h : RS W rb AB wv ws y (.slice p n c) wr) (T : Tb W) (hn : n = y.vals.length) (hl : y.vals.length ≤ 1048576) (hr : RightA y) (ho : y.Ok) : Calls Tryz.prog 19 #[.agg (bxA y (.slice p n c))] wr fun e w' => e = .returned (.string (mkS (lineA y))) ∧ RS W rb AB wv ws y (.slice p n c) w' := by
  subst hn
  refine (d_line y hr ho p c wr (T.on h.bel) (URd.of_row h.vrow) hl).mono ?_
  rintro e w' ⟨rfl, hb⟩
  exact ⟨rfl, h.on hb⟩
theorem chgBel {w w' : World} (h : Chg (fun _ => False) w w') : Below w.heap.size w w' := ⟨h.os, h.tape, h.output, h.size, fun i hi => h.block i hi (fun x => x)⟩
theorem row_s_slice {W : World} {v : Value} {ws : List (List UInt8)} (h : W.ownsRow 0 9 1 v ws.length (strsRow ws)) (h0 : 0 < ws.length) : ∃ g cap, v = .slice (some ⟨g, 0, none⟩) ws.length cap := by
  rcases h.2 with ⟨_, e⟩ | ⟨g, cap, cur, e, _⟩
  · omega
  · exact ⟨g, cap, e⟩
def slN : Value → Nat
  | .slice _ n _ => n
  | _ => 0
theorem few3_none {t : List UInt8} (h : (Lib.split t [32]).length < 3) : lineP t = none := by
  cases e : lineP t with
  | none => rfl
  | some x =>
    obtain ⟨h1, h2, h3⟩ := lineP_some e
    have := parts_3 h1
    rw [h3, split_line] at h
    omega
theorem pad_get {ws pd : List (List UInt8)} {j : Nat} (h : j < (ws ++ pd).length) : ∃ f, (ws ++ pd)[j]? = some f := ⟨_, List.getElem?_eq_getElem h⟩
theorem pad_le {ws : List (List UInt8)} {m : Nat} {N : Nat} (h : ∀ f ∈ ws, f.length ≤ N) : ∀ f ∈ ws ++ List.replicate m [], f.length ≤ N := fun f hf => by
  rcases List.mem_append.mp hf with q | q
  · exact h f q
  · rw [(List.mem_replicate.mp q).2]; simp
theorem RS.app {W : World} {rb AB : Nat} {wv : Value} {ws : List (List UInt8)} {y : Ax} {p : Option Addr} {n c : Nat} {wr : World} (h : RS W rb AB wv ws y (.slice p n c) wr) (hn : n = y.vals.length) (hl : n ≤ 1048600) (u : Nat) (ty : TypeId) :
    ∃ p' c' w9, (Builtin.append_ #[34, 34] ty #[.slice p n c, .slice (some ⟨wr.heap.size, 0, none⟩) 1 1]).run Tryz.prog (wr.alloc (.cells #[.int .u64 (u : Int)] 33)) = .ok (.slice p' (n + 1) c') w9 ∧ RS W rb AB wv ws { y with vals := y.vals ++ [u] } (.slice p' (n + 1) c') (w9.setCell ⟨AB, 5, none⟩ (.slice p' (n + 1) c')) ∧ w9.cell? ⟨AB, 5, none⟩ = some (.slice p n c) ∧ w9.frozen? ⟨AB, 5, none⟩ = false ∧ w9.ownsRow 0 9 1 wv ws.length (strsRow ws) := by
  obtain ⟨j0, hj, hj0, hj1, hj2⟩ := info_parts infoUx
  have hv := h.vrow
  rw [← hn] at hv
  obtain ⟨v', w9, hr, h2, h3, h4, h5⟩ := run_append_own_at (P := Tryz.prog) (wr.alloc (.cells #[.int .u64 (u : Int)] 33)) 0 34 ty 33 j0 (.int .u64 0) 1 8 Tryz.underlying34 hj hj0 hj1 hj2 rfl (by decide) (.slice p n c) n (u64L y.vals) (hv.alloc _) ⟨wr.heap.size, 0, none⟩ 1 1 [.int .u64 (u : Int)] rfl (cells_newR _ _ (by simp) _ _) (by intro z hz; simp at hz; subst hz; rfl) (by unfold maxLen; omega) (by omega) (Nat.zero_le _)
  obtain ⟨k1, k2, k3⟩ := h.val (u := u) (by rw [← hn]; exact h2) h3 h5
  obtain ⟨p', c', e⟩ := row_u_slice k1.vrow
  have e' : v' = .slice p' (n + 1) c' := by rw [e, hn]; simp
  subst e'
  have h1 := h.on (below_alloc wr (.cells #[.int .u64 (u : Int)] 33))
  exact ⟨p', c', w9, hr, k1, k2, k3, row_kept h1.row (fun k hk => h3.block k (row_lt h1.row k hk) (fun e => by
    obtain ⟨cur, hcur⟩ := row_block h1.row k hk
    exact block_apart h1.vrow hcur (by decide) e.symm))⟩
theorem row_at {wr : World} {fb n cap : Nat} {ws : List (List UInt8)} (h : wr.ownsRow 0 9 1 (.slice (some ⟨fb, 0, none⟩) n cap) ws.length (strsRow ws)) {j : Nat} {f : List UInt8} (hn : n = ws.length) (hj : ws[j]? = some f) : wr.cell? ⟨fb, j, none⟩ = some (.string (mkS f)) := by
  rw [← hn] at h
  have hlt := (List.getElem?_eq_some_iff.1 hj).1
  rw [World.ownsRow.cellAt h j (by omega)]
  simp [strsRow, hj]
def VIv (W : World) (rb AB : Nat) (wv : Value) (ws : List (List UInt8)) (th : Int) (kd ad i : Nat) (wr : World) : Prop := ∃ (us : List Nat) (vp : Option Addr) (vn vc : Nat), vn ≤ i ∧ RS W rb AB wv ws ⟨th, kd, ad, 0, 0, us, 0, false⟩ (.slice vp vn vc) wr ∧ ValP ws (i - 3) us ∧ vn = us.length
/-- what is told at the last -/
theorem RS.setRow {W : World} {rb AB : Nat} {wv : Value} {ws : List (List UInt8)} {y : Ax} {vs : Value} {wr : World} (h : RS W rb AB wv ws y vs wr) (cs : Array Value) : Below W.heap.size W (wr.setRow rb cs) ∧ (wr.setRow rb cs).ownsRow 0 33 1 vs y.vals.length (u64L y.vals) ∧ (wr.setRow rb cs).heap[rb]? = some (.cells cs 36 (0, 0)) :=
  ⟨below_row h.bel h.l1, row_kept h.vrow (fun k hk => setRow_other _ _ _ _ (fun e => row_not h.vrow h.res (by decide) (by rw [hk, e]))), setRow_heap _ rb _ cs 36 (0, 0) h.res⟩
theorem pst_of {ws : List (List UInt8)} {th : Int} {kd ad : Nat} {f0 f1 f2 : List UInt8} (hth : -9223372036854775808 ≤ th ∧ th < 9223372036854775808) (hz : ∀ z, Lib.atoiAll f0 = .ok z → th = z) (hkd : kd ≤ 5) (hkd2 : ∀ j, 1 ≤ j → j < 6 → wordL j = f1 → kd = j) (hu : isU ad) (hn : ∀ z, natP f2 = some z → ad = z)
    (h0 : ws[0]? = some f0) (h1 : ws[1]? = some f1) (h2 : ws[2]? = some f2) : Pst ws ⟨th, kd, ad, 0, 0, [], 0, false⟩ := by
  refine ⟨⟨hth.1, hth.2, by simp only; omega, hu, okU0, okU0, okU0, by simp⟩, fun x hr ho e => ?_⟩
  rw [e] at h0 h1 h2
  have h2' : Lib.decDigits x.addr = f2 := by rcases hr with h | h | h | h | h <;> simpa [partsL, numsL, h.1] using h2
  simp [partsL] at h0 h1
  have hk := right_kind hr
  refine ⟨?_, ?_, ?_⟩
  · exact hz _ (by rw [← h0]; exact atoi_itoa _ ho.th0 ho.th1)
  · exact hkd2 x.kind hk.1 (by omega) h1
  · exact hn _ (by rw [← h2']; exact natP_dec _ ho.addr)

set_option maxRecDepth 100000 in
set_option maxHeartbeats 8000000 in
theorem d_read (t : List UInt8) (ht : t.length ≤ 1048576) (W : World) (T : Tb W) :
    Calls Tryz.prog 23 #[.string (mkS t)] W fun e W' => ∃ v, e = .returned v ∧ PaQ W t v W' := by
  obtain ⟨i0, hi, hz0, hz1, hz2⟩ := info_parts infoStr
  have HI := keepH hi
  obtain ⟨j0, hj, hj0, hj1, hj2⟩ := info_parts infoUx
  have HJ := keepH hj
  clear hi hj
  obtain ⟨w0, hw0⟩ : ∃ w0, w0 = W.alloc (.cells (bxA ax0 (.slice none 0 0)) 36) := ⟨_, rfl⟩
  obtain ⟨rb, hrb⟩ : ∃ rb, rb = W.heap.size := ⟨_, rfl⟩
  have B0 : Below W.heap.size W w0 := by rw [hw0]; exact below_alloc _ _
  have X0 : w0.heap[rb]? = some (.cells (bxA ax0 (.slice none 0 0)) 36 (0, 0)) := by rw [hw0, hrb]; exact heap_alloc_new _ _
  have hwd := r_words t (by omega) w0
  obtain ⟨s, hs⟩ : ∃ s, s = mkS t := ⟨_, rfl⟩
  rw [← hs] at hwd ⊢
  have HS := keepH hs
  have HT := keepH T
  have HB0 := keepH B0
  have HX0 := keepH X0
  have HRB : Hid (W.heap.size ≤ rb) := keepH (by omega)
  clear hs T B0 X0
  go_enter Tryz.func23, Tryz.ntmps23
  go_upto_region 1 with fail
  rw [show W.alloc (.cells #[.int .i64 0, .int .u8 0, .int .u64 0, .int .u64 0, .int .u64 0, .slice none 0 0, .int .u64 0, .bool false] 36) = w0 from hw0.symm, ← hrb]
  clear hw0 hrb
  go_wp2_with fail
  refine hwd.mono ?_
  rintro e w1 ⟨wv, rfl, fs, r, hR, hW⟩
  obtain ⟨fb, cap, rfl⟩ := hR.form
  have HWS0 := keepH (wd_split hW)
  obtain ⟨ws, hws⟩ : ∃ ws, ws = fs ++ [r] := ⟨_, rfl⟩
  obtain ⟨n, hn⟩ : ∃ n, n = ws.length := ⟨_, rfl⟩
  have hn1 : fs.length + 1 = n := by rw [hn, hws]; simp
  rw [← hws] at HWS0 hR
  rw [hn1] at hR ⊢
  have HWS : Hid (Lib.split t [32] = ws) := HWS0
  have HN := keepH hn
  have C1 := chgBel hR.chg
  have hrow := hR.row
  rw [← hn] at hrow
  have HW1 : Hid (Below W.heap.size W w1 ∧ w1.heap[rb]? = some (.cells (bxA ax0 (.slice none 0 0)) 36 (0, 0)) ∧ w1.ownsRow 0 9 1 (.slice (some ⟨fb, 0, none⟩) n cap) n (strsRow ws) ∧ W.heap.size ≤ fb) := keepH ⟨below_chain HB0.out C1, heap_below HX0.out C1, hrow, by have := hR.new fb rfl; have := HB0.out.size; omega⟩
  have HFL : Hid (∀ f ∈ ws, f.length ≤ 200000000) := keepH (fun f hf => by rw [← HWS.out] at hf; have := split_le t f hf; omega)
  have hcnt : n ≤ 1048577 := by rw [hn, ← HWS.out]; have := split_cnt t; omega
  clear hwd hW hws hn hn1 hR C1 hrow HWS0 HB0 HX0
  by_cases h3 : n < 3
  · have q1 : (n : Int) < 3 := by omega
    go_wp2_with (first | ((refine wpList_store_row rfl 36 _ _ rfl rb #[.int .i64 0, .int .u8 0, .int .u64 0, .int .u64 0, .int .u64 0, .slice none 0 0, .int .u64 0, .bool false] rfl rfl 36 (bxA ax0 (.slice none 0 0)) HW1.out.2.1 (by kernel_rfl) rfl zero_one ?_)) | go_in)
    obtain ⟨g0, g1, g2, g3, g4, g5, g6, g7⟩ := zero_cells (setRow_heap _ rb _ #[.int .i64 0, .int .u8 0, .int .u64 0, .int .u64 0, .int .u64 0, .slice none 0 0, .int .u64 0, .bool false] 36 (0, 0) HW1.out.2.1)
    refine bodyPost_ret (v := .tuple #[.agg (bxA ax0 (.slice none 0 0)), .bool false]) (by simp [results, Tryz.results23, go_sem, g0, g1, g2, g3, g4, g5, g6, g7]) rfl ⟨_, rfl, _, _, rfl, ?_⟩
    exact PaP.bad (few3_none (by rw [HWS.out, ← HN.out]; exact h3)) (below_row HW1.out.1 HRB.out)
  · have q1 : ¬ (n : Int) < 3 := by omega
    obtain ⟨f0, hf0⟩ : ∃ f, ws[0]? = some f := ⟨_, List.getElem?_eq_getElem (by have := HN.out; omega)⟩
    obtain ⟨f1, hf1⟩ : ∃ f, ws[1]? = some f := ⟨_, List.getElem?_eq_getElem (by have := HN.out; omega)⟩
    obtain ⟨f2, hf2⟩ : ∃ f, ws[2]? = some f := ⟨_, List.getElem?_eq_getElem (by have := HN.out; omega)⟩
    have HF0 := keepH hf0
    have HF1 := keepH hf1
    have HF2 := keepH hf2
    obtain ⟨AB, hAB⟩ : ∃ AB, AB = w1.heap.size := ⟨_, rfl⟩
    obtain ⟨w2, hw2⟩ : ∃ w2, w2 = w1.alloc (.cells (bxA ax0 (.slice none 0 0)) 36) := ⟨_, rfl⟩
    have HR2 : Hid (RS W rb AB (.slice (some ⟨fb, 0, none⟩) n cap) ws ax0 (.slice none 0 0) w2) := keepH (by
      have C2 : Below w1.heap.size w1 w2 := by rw [hw2]; exact below_alloc _ _
      refine ⟨below_chain HW1.out.1 C2, heap_below HW1.out.2.1 C2, ?_, by rw [hw2, hAB]; exact heap_alloc_new _ _, World.ownsRow_nil _ _ _ _, fun g hg => by simp [Value.ownBlock] at hg, fun g hg => ?_, HRB.out, ?_, ?_⟩
      · rw [← HN.out, hw2]; exact HW1.out.2.2.1.alloc _
      · simp [Value.ownBlock] at hg; rw [← hg]; exact HW1.out.2.2.2
      · rw [hAB]; exact HW1.out.1.size
      · have := lt_of HW1.out.2.1; omega)
    have HW2 := keepH hw2
    have HAT : Hid (Calls Tryz.prog 45 #[.string (mkS f0)] w2 fun e w' => ∃ v, e = .returned v ∧ AtQ f0 v ∧ Below w2.heap.size w2 w') := keepH (atoi_each f0 (HFL.out f0 (List.mem_of_getElem? hf0)) w2 (HT.out.on HR2.out.bel))
    obtain ⟨s0, hs0⟩ : ∃ s, s = mkS f0 := ⟨_, rfl⟩
    have c0 : w2.cell? ⟨fb, 0, none⟩ = some (.string (mkS f0)) := HR2.out.at HN.out hf0
    rw [← hs0] at c0 HAT
    have k0 : (0 : Int) < (n : Int) := by omega
    have k1 : (1 : Int) < (n : Int) := by omega
    have k2 : (2 : Int) < (n : Int) := by omega
    clear hs0 hw2 hf0 hf1 hf2 HW1
    go_upto_region 5 with fail
    rw [show w1.alloc (.cells #[.int .i64 0, .int .u8 0, .int .u64 0, .int .u64 0, .int .u64 0, .slice none 0 0, .int .u64 0, .bool false] 36) = w2 from HW2.out.symm, ← hAB]
    clear hAB HW2
    go_wp2_with (first | (go_at_call 45; refine HAT.out.mono ?_; rintro e w3 ⟨v, rfl, ⟨th, pp, rfl, hth, hz⟩, C3⟩; have HR3 := keepH (HR2.out.on C3); have HTH := keepH hth; have HZ := keepH hz; have x0 : w3.cell? ⟨AB, 0, none⟩ = some (.int .i64 0) := cell_of HR3.out.box 0; have z0 := free_of HR3.out.box 0; clear hth hz C3) | go_in)
    have HR4 : Hid (RS W rb AB (.slice (some ⟨fb, 0, none⟩) n cap) ws ⟨th, 0, 0, 0, 0, [], 0, false⟩ (.slice none 0 0) (w3.setCell ⟨AB, 0, none⟩ (.int .i64 th))) := keepH (HR3.out.set 0 (.int .i64 th) ⟨th, 0, 0, 0, 0, [], 0, false⟩ rfl rfl)
    obtain ⟨w4, hw4⟩ : ∃ w4, w4 = w3.setCell ⟨AB, 0, none⟩ (.int .i64 th) := ⟨_, rfl⟩
    rw [← hw4] at HR4 ⊢
    clear hw4 c0 x0 z0
    go_loopw [6] (fun s6 wr => ∃ (i kd : Nat), 1 ≤ i ∧ i ≤ 6 ∧ kd ≤ 5 ∧ s6 = .int .u8 (i : Int) ∧ Hid (RS W rb AB (.slice (some ⟨fb, 0, none⟩) n cap) ws ⟨th, kd, 0, 0, 0, [], 0, false⟩ (.slice none 0 0) wr ∧ ∀ j, 1 ≤ j → j < i → wordL j = f1 → kd = j)) (fun s6 _ => 6 - (intOf s6).toNat)
    case atStart => exact ⟨1, 0, by omega, by omega, by omega, rfl, keepH ⟨HR4.out, fun j h1 h2 => by omega⟩⟩
    case round =>
      clear HR4 HR3
      obtain ⟨i, kd, hi1, hi6, hkd, rfl, HK⟩ := hrel
      by_cases hlt : i < 6
      · have q2 : (i : Int) ≤ 5 := by omega
        have c1 : wr.cell? ⟨fb, 1, none⟩ = some (.string (mkS f1)) := HK.out.1.at HN.out HF1.out
        have HWD : Hid (∀ m, Calls Tryz.prog 37 #[.int .u8 (i : Int)] (wr.drewN m) fun e w' => e = .returned (.string (mkS (wordL i))) ∧ RS W rb AB (.slice (some ⟨fb, 0, none⟩) n cap) ws ⟨th, kd, 0, 0, 0, [], 0, false⟩ (.slice none 0 0) w') := keepH (fun m => (HK.out.1.dn m).word i ⟨hi1, by omega⟩)
        have hq : ((mkS (wordL i)).toList == (mkS f1).toList) = decide (wordL i = f1) := beq_mkS _ _
        have HC1 : Hid (∀ w', RS W rb AB (.slice (some ⟨fb, 0, none⟩) n cap) ws ⟨th, kd, 0, 0, 0, [], 0, false⟩ (.slice none 0 0) w' → w'.cell? ⟨fb, 1, none⟩ = some (.string (mkS f1))) := keepH (fun w' h' => h'.at HN.out HF1.out)
        obtain ⟨s1, hs1⟩ : ∃ s, s = mkS f1 := ⟨_, rfl⟩
        obtain ⟨sw, hsw⟩ : ∃ s, s = mkS (wordL i) := ⟨_, rfl⟩
        rw [← hs1] at c1 hq HC1
        rw [← hsw] at HWD hq
        have HS0 := keepH c1
        have qw : IntKind.u8.wrap ((i : Int) + 1) = ((i + 1 : Nat) : Int) := by rw [IntKind.wrap_u8]; omega
        clear hs1 hsw c1
        by_cases hw : wordL i = f1
        · rw [decide_eq_true hw] at hq
          have HKN : Hid (∀ j, 1 ≤ j → j < i + 1 → wordL j = f1 → i = j) := keepH (fun j h1 h2 h3 => word_inj ⟨hi1, by omega⟩ ⟨h1, by omega⟩ (hw.trans h3.symm))
          clear hw
          go_upto_region 9 with fail
          refine wp_region_held_drew (S := fun w' => w'.cell? ⟨fb, 1, none⟩ = some (.string s1)) (by kernel_rfl) (HS0.out) ?_
          intro hHeld
          refine wpAnyH_take (i := 0) (v := ?_) rfl (by kernel_rfl) (by kernel_rfl) (by kernel_rfl) (fun _ _ _ h => h) (Or.inl ⟨by rfl, ?_⟩) hHeld ?_
          rotate_left
          · intro w hSw
            (try dsimp only at hSw)
            go_simp
            try with_reducible rfl
          (try simp only [Act.put]); (try simp only [List.setIfInBounds_toArray]); (try simp only [List.getElem_toArray]); (repeat (first | simp only [List.getElem_cons_succ] | simp only [List.getElem_cons_zero])); (repeat (first | simp only [List.set_cons_succ] | simp only [List.set_cons_zero]))
          refine wpAnyH_take (i := 2) (v := ?_) rfl (by kernel_rfl) (by kernel_rfl) (by kernel_rfl) (fun _ _ _ h => h) (Or.inl ⟨by rfl, ?_⟩) hHeld ?_
          rotate_left
          · intro w hSw
            (try dsimp only at hSw)
            go_simp
            try with_reducible rfl
          (try simp only [Act.put]); (try simp only [List.setIfInBounds_toArray]); (try simp only [List.getElem_toArray]); (repeat (first | simp only [List.getElem_cons_succ] | simp only [List.getElem_cons_zero])); (repeat (first | simp only [List.set_cons_succ] | simp only [List.set_cons_zero]))
          refine wpAnyH_take (i := 3) (v := ?_) rfl (by kernel_rfl) (by kernel_rfl) (by kernel_rfl) (fun _ _ _ h => h) (Or.inl ⟨by rfl, ?_⟩) hHeld ?_
          rotate_left
          · intro w hSw
            (try dsimp only at hSw)
            go_simp
            try with_reducible rfl
          (try simp only [Act.put]); (try simp only [List.setIfInBounds_toArray]); (try simp only [List.getElem_toArray]); (repeat (first | simp only [List.getElem_cons_succ] | simp only [List.getElem_cons_zero])); (repeat (first | simp only [List.set_cons_succ] | simp only [List.set_cons_zero]))
          refine wpAnyH_take (i := 4) (v := ?_) rfl (by kernel_rfl) (by kernel_rfl) (by kernel_rfl) (fun _ _ _ h => h) (Or.inl ⟨by rfl, ?_⟩) hHeld ?_
          rotate_left
          · intro w hSw
            (try dsimp only at hSw)
            go_simp
            try with_reducible rfl
          (try simp only [Act.put]); (try simp only [List.setIfInBounds_toArray]); (try simp only [List.getElem_toArray]); (repeat (first | simp only [List.getElem_cons_succ] | simp only [List.getElem_cons_zero])); (repeat (first | simp only [List.set_cons_succ] | simp only [List.set_cons_zero]))
          refine wpAnyH_ready (rs := [1]) (by kernel_rfl) (by simp) ?_
          refine AllReadyH.cons rfl (fun KK hKK => ?_) AllReadyH.nil
          go_simp
          refine (HWD.out _).mono ?_
          rintro e w5 ⟨rfl, h5⟩
          have H5 := keepH h5
          clear h5
          refine hKK.out _ _ ?_ (fun hHeld => ?_)
          · exact HC1.out _ H5.out
          clear hKK KK
          (try simp only [Act.put]); (try simp only [List.setIfInBounds_toArray]); (try simp only [List.getElem_toArray]); (repeat (first | simp only [List.getElem_cons_succ] | simp only [List.getElem_cons_zero])); (repeat (first | simp only [List.set_cons_succ] | simp only [List.set_cons_zero]))
          refine wpAnyH_take (i := 5) (v := ?_) rfl (by kernel_rfl) (by kernel_rfl) (by kernel_rfl) (fun _ _ _ h => h) (Or.inl ⟨by rfl, ?_⟩) hHeld ?_
          rotate_left
          · intro w hSw
            (try dsimp only at hSw)
            go_simp
            try with_reducible rfl
          (try simp only [Act.put]); (try simp only [List.setIfInBounds_toArray]); (try simp only [List.getElem_toArray]); (repeat (first | simp only [List.getElem_cons_succ] | simp only [List.getElem_cons_zero])); (repeat (first | simp only [List.set_cons_succ] | simp only [List.set_cons_zero]))
          refine wpAnyH_done (by kernel_rfl) ?_ _
          go_simp
          clear hHeld
          have x1 : w5.cell? ⟨AB, 1, none⟩ = some (.int .u8 (kd : Int)) := cell_of H5.out.box 1
          have z1 := free_of H5.out.box 1
          go_wp2_with fail
          have HR6 : Hid (RS W rb AB (.slice (some ⟨fb, 0, none⟩) n cap) ws ⟨th, i, 0, 0, 0, [], 0, false⟩ (.slice none 0 0) (w5.setCell ⟨AB, 1, none⟩ (.int .u8 (i : Int)))) := keepH (H5.out.set 1 (.int .u8 (i : Int)) ⟨th, i, 0, 0, 0, [], 0, false⟩ rfl rfl)
          go_roundw
          case rel => exact ⟨i + 1, i, by omega, by omega, by omega, by first | rfl | go_num, keepH ⟨HR6.out, HKN.out⟩⟩
          case measure => simp [intOf]; omega
        · rw [decide_eq_false hw] at hq
          have HKN : Hid (∀ j, 1 ≤ j → j < i + 1 → wordL j = f1 → kd = j) := keepH (fun j h1 h2 h3 => by
            by_cases e : j = i
            · subst e; exact absurd h3 hw
            · exact HK.out.2 j h1 (by omega) h3)
          clear hw
          go_upto_region 9 with fail
          refine wp_region_held_drew (S := fun w' => w'.cell? ⟨fb, 1, none⟩ = some (.string s1)) (by kernel_rfl) (HS0.out) ?_
          intro hHeld
          refine wpAnyH_take (i := 0) (v := ?_) rfl (by kernel_rfl) (by kernel_rfl) (by kernel_rfl) (fun _ _ _ h => h) (Or.inl ⟨by rfl, ?_⟩) hHeld ?_
          rotate_left
          · intro w hSw
            (try dsimp only at hSw)
            go_simp
            try with_reducible rfl
          (try simp only [Act.put]); (try simp only [List.setIfInBounds_toArray]); (try simp only [List.getElem_toArray]); (repeat (first | simp only [List.getElem_cons_succ] | simp only [List.getElem_cons_zero])); (repeat (first | simp only [List.set_cons_succ] | simp only [List.set_cons_zero]))
          refine wpAnyH_take (i := 2) (v := ?_) rfl (by kernel_rfl) (by kernel_rfl) (by kernel_rfl) (fun _ _ _ h => h) (Or.inl ⟨by rfl, ?_⟩) hHeld ?_
          rotate_left
          · intro w hSw
            (try dsimp only at hSw)
            go_simp
            try with_reducible rfl
          (try simp only [Act.put]); (try simp only [List.setIfInBounds_toArray]); (try simp only [List.getElem_toArray]); (repeat (first | simp only [List.getElem_cons_succ] | simp only [List.getElem_cons_zero])); (repeat (first | simp only [List.set_cons_succ] | simp only [List.set_cons_zero]))
          refine wpAnyH_take (i := 3) (v := ?_) rfl (by kernel_rfl) (by kernel_rfl) (by kernel_rfl) (fun _ _ _ h => h) (Or.inl ⟨by rfl, ?_⟩) hHeld ?_
          rotate_left
          · intro w hSw
            (try dsimp only at hSw)
            go_simp
            try with_reducible rfl
          (try simp only [Act.put]); (try simp only [List.setIfInBounds_toArray]); (try simp only [List.getElem_toArray]); (repeat (first | simp only [List.getElem_cons_succ] | simp only [List.getElem_cons_zero])); (repeat (first | simp only [List.set_cons_succ] | simp only [List.set_cons_zero]))
          refine wpAnyH_take (i := 4) (v := ?_) rfl (by kernel_rfl) (by kernel_rfl) (by kernel_rfl) (fun _ _ _ h => h) (Or.inl ⟨by rfl, ?_⟩) hHeld ?_
          rotate_left
          · intro w hSw
            (try dsimp only at hSw)
            go_simp
            try with_reducible rfl
          (try simp only [Act.put]); (try simp only [List.setIfInBounds_toArray]); (try simp only [List.getElem_toArray]); (repeat (first | simp only [List.getElem_cons_succ] | simp only [List.getElem_cons_zero])); (repeat (first | simp only [List.set_cons_succ] | simp only [List.set_cons_zero]))
          refine wpAnyH_ready (rs := [1]) (by kernel_rfl) (by simp) ?_
          refine AllReadyH.cons rfl (fun KK hKK => ?_) AllReadyH.nil
          go_simp
          refine (HWD.out _).mono ?_
          rintro e w5 ⟨rfl, h5⟩
          have H5 := keepH h5
          clear h5
          refine hKK.out _ _ ?_ (fun hHeld => ?_)
          · exact HC1.out _ H5.out
          clear hKK KK
          (try simp only [Act.put]); (try simp only [List.setIfInBounds_toArray]); (try simp only [List.getElem_toArray]); (repeat (first | simp only [List.getElem_cons_succ] | simp only [List.getElem_cons_zero])); (repeat (first | simp only [List.set_cons_succ] | simp only [List.set_cons_zero]))
          refine wpAnyH_take (i := 5) (v := ?_) rfl (by kernel_rfl) (by kernel_rfl) (by kernel_rfl) (fun _ _ _ h => h) (Or.inl ⟨by rfl, ?_⟩) hHeld ?_
          rotate_left
          · intro w hSw
            (try dsimp only at hSw)
            go_simp
            try with_reducible rfl
          (try simp only [Act.put]); (try simp only [List.setIfInBounds_toArray]); (try simp only [List.getElem_toArray]); (repeat (first | simp only [List.getElem_cons_succ] | simp only [List.getElem_cons_zero])); (repeat (first | simp only [List.set_cons_succ] | simp only [List.set_cons_zero]))
          refine wpAnyH_done (by kernel_rfl) ?_ _
          go_simp
          clear hHeld
          go_wp2_with fail
          go_roundw
          case rel => exact ⟨i + 1, kd, by omega, by omega, by omega, by first | rfl | go_num, keepH ⟨H5.out, HKN.out⟩⟩
          case measure => simp [intOf]; omega
      · obtain rfl : i = 6 := by omega
        rw [show ((6 : Nat) : Int) = 6 from rfl]
        have c2 : wr.cell? ⟨fb, 2, none⟩ = some (.string (mkS f2)) := HK.out.1.at HN.out HF2.out
        have hnu := HK.out.1.number HT.out f2 (HFL.out f2 (List.mem_of_getElem? HF2.out))
        obtain ⟨s2, hs2⟩ : ∃ s, s = mkS f2 := ⟨_, rfl⟩
        rw [← hs2] at c2 hnu
        clear hs2
        go_upto_block 2 with (first | (go_at_call 46; refine hnu.mono ?_; rintro e w5 ⟨v, rfl, ⟨ad, rfl, had, hnz⟩, h5⟩; have H5 := keepH h5; have HAD := keepH had; have HNZ := keepH hnz; have x2 : w5.cell? ⟨AB, 2, none⟩ = some (.int .u64 0) := cell_of H5.out.box 2; have z2 := free_of H5.out.box 2; clear had hnz h5))
        have HR6 : Hid (RS W rb AB (.slice (some ⟨fb, 0, none⟩) n cap) ws ⟨th, kd, ad, 0, 0, [], 0, false⟩ (.slice none 0 0) (w5.setCell ⟨AB, 2, none⟩ (.int .u64 (ad : Int)))) := keepH (H5.out.set 2 (.int .u64 (ad : Int)) ⟨th, kd, ad, 0, 0, [], 0, false⟩ rfl rfl)
        obtain ⟨w6, hw6⟩ : ∃ w6, w6 = w5.setCell ⟨AB, 2, none⟩ (.int .u64 (ad : Int)) := ⟨_, rfl⟩
        rw [← hw6] at HR6 ⊢
        have HPS : Hid (Pst ws ⟨th, kd, ad, 0, 0, [], 0, false⟩) := keepH (pst_of HTH.out HZ.out hkd HK.out.2 HAD.out HNZ.out HF0.out HF1.out HF2.out)
        clear hw6 c2 x2 z2 hnu HK
        go_cut [4] from 39 to 49 (fun s4 wx => ∃ (pd g N cp : Nat), s4 = .slice (some ⟨g, 0, none⟩) N cp ∧ n ≤ N ∧ N ≤ 1048600 ∧ (kd ≠ 5 → 6 ≤ N) ∧ (kd = 5 → N ≤ 1048577 ∧ pd = 0) ∧ Hid (N = n + pd ∧ RS W rb AB (.slice (some ⟨g, 0, none⟩) N cp) (ws ++ List.replicate pd []) ⟨th, kd, ad, 0, 0, [], 0, false⟩ (.slice none 0 0) wx))
        case first =>
          go_wp2_with fail
          go_loopw [4] (fun s4 wr => ∃ (pd g N cp : Nat), s4 = .slice (some ⟨g, 0, none⟩) N cp ∧ n ≤ N ∧ N ≤ 1048600 ∧ (kd = 5 → pd = 0) ∧ Hid (N = n + pd ∧ RS W rb AB s4 (ws ++ List.replicate pd []) ⟨th, kd, ad, 0, 0, [], 0, false⟩ (.slice none 0 0) wr)) (fun s4 _ => 6 - slN s4)
          case atStart => exact ⟨0, fb, n, cap, rfl, by omega, by omega, fun _ => rfl, keepH ⟨rfl, by simpa using HR6.out⟩⟩
          case round =>
            clear HR6 H5
            obtain ⟨pd, g, N, cp, rfl, hnN, hN6, hk5, HK⟩ := hrel
            have HNL : Hid (N = (ws ++ List.replicate pd []).length) := keepH (by rw [List.length_append, List.length_replicate, ← HN.out]; exact HK.out.1)
            have c1 : wr.cell? ⟨AB, 1, none⟩ = some (.int .u8 (kd : Int)) := cell_of HK.out.2.box 1
            by_cases hp : N < 6 ∧ kd ≠ 5
            · have q3 : (N : Int) < 6 := by omega
              have q4 : (((kd : Nat) : Int) != 5) = true := by simp; omega
              have hi := HI.out
              have HRW : Hid (wr.ownsRow 0 9 1 (.slice (some ⟨g, 0, none⟩) N cp) N (strsRow (ws ++ List.replicate pd []))) := keepH (by
                have := HK.out.2.row
                rw [← HNL.out] at this
                exact this)
              go_wp2_with (first | (at_builtin; refine wpList_append_own_at _ rfl (.tmp 47) (.tmp 48) 56 rfl 0 9 i0 (.string ⟨#[]⟩) 1 16 Tryz.underlying56 hi hz0 hz1 hz2 rfl (by decide) (.slice (some ⟨g, 0, none⟩) N cp) N (strsRow (ws ++ List.replicate pd [])) rfl (HRW.out.alloc _) ⟨wr.heap.size, 0, none⟩ 1 1 [.string ⟨#[]⟩] rfl rfl (cells_newR _ _ (by simp) _ _) (by intro u hu; simp at hu; rcases hu with rfl; rfl) (by unfold maxLen; omega) (by omega) (Nat.zero_le _) ?_; intro v2 w2 r1 r2 r3 r4; have R1 := keepH r1; have R2 := keepH r2; have R4 := keepH r4; clear r1 r2 r3 r4) | go_in)
              have HNX : Hid (RS W rb AB v2 (ws ++ List.replicate (pd + 1) []) ⟨th, kd, ad, 0, 0, [], 0, false⟩ (.slice none 0 0) w2) := keepH (by
                have e := HK.out.2.pad (r := []) (by rw [← HNL.out]; exact R1.out) R2.out R4.out
                rw [List.append_assoc, ← List.replicate_succ'] at e
                exact e)
              have hl' : (ws ++ List.replicate (pd + 1) []).length = N + 1 := by rw [HNL.out]; simp; omega
              obtain ⟨g', cp', hg'⟩ := row_s_slice HNX.out.row (by rw [hl']; omega)
              rw [hl'] at hg'
              subst hg'
              have HP := keepH hp
              clear hl' hp
              go_roundw
              case rel => exact ⟨pd + 1, g', N + 1, cp', rfl, by omega, by omega, fun e => absurd e HP.out.2, keepH ⟨by have := HK.out.1; omega, HNX.out⟩⟩
              case measure => simp [slN]; omega
            · have HMT : Hid (∃ (pd' g' N' cp' : Nat), Value.slice (some ⟨g, 0, none⟩) N cp = .slice (some ⟨g', 0, none⟩) N' cp' ∧ n ≤ N' ∧ N' ≤ 1048600 ∧ (kd ≠ 5 → 6 ≤ N') ∧ (kd = 5 → N' ≤ 1048577 ∧ pd' = 0) ∧ Hid (N' = n + pd' ∧ RS W rb AB (.slice (some ⟨g', 0, none⟩) N' cp') (ws ++ List.replicate pd' []) ⟨th, kd, ad, 0, 0, [], 0, false⟩ (.slice none 0 0) wr)) := keepH ⟨pd, g, N, cp, rfl, hnN, hN6, by omega, fun e => ⟨by have := HK.out.1; have := hk5 e; omega, hk5 e⟩, HK⟩
              by_cases h6 : N < 6
              · have q3 : (N : Int) < 6 := by omega
                have q4 : (((kd : Nat) : Int) != 5) = false := by simp; omega
                clear hp hk5
                go_wp2_with fail
                go_meet
                exact HMT.out
              · have q3 : ¬ (N : Int) < 6 := by omega
                clear hp hk5
                go_wp2_with fail
                go_meet
                exact HMT.out
        case rest =>
          clear HR6 H5
          obtain ⟨pd, g, N, cp, rfl, hnN, hN6, hk6, hk5, HK0⟩ := hcut
          have HK := keepH HK0.out.2
          have HNL : Hid (N = (ws ++ List.replicate pd []).length) := keepH (by rw [List.length_append, List.length_replicate, ← HN.out]; exact HK0.out.1)
          have HNN := keepH HK0.out.1
          have HFL2 : Hid (∀ f ∈ ws ++ List.replicate pd [], f.length ≤ 200000000) := keepH (pad_le HFL.out)
          have c1 : wc.cell? ⟨AB, 1, none⟩ = some (.int .u8 (kd : Int)) := cell_of HK.out.box 1
          clear HK0
          go_upto_block 4 with fail
          clear c1
          go_cut [7] from 50 to 112 (fun s7 wx => ∃ (y : Ax) (vp : Option Addr) (vn vc : Nat), Hid (RS W rb AB (.slice (some ⟨g, 0, none⟩) N cp) (ws ++ List.replicate pd []) y (.slice vp vn vc) wx ∧ FinP ws y ∧ vn = y.vals.length ∧ y.vals.length ≤ 1048576))
          case first =>
            obtain hk | hk | hk | hk | hk | hk : kd = 0 ∨ kd = 1 ∨ kd = 2 ∨ kd = 3 ∨ kd = 4 ∨ kd = 5 := by omega
            · have t1 : ¬ ((kd : Nat) : Int) = 1 := by omega
              have b1 : (((kd : Nat) : Int) == 1) = false := by simp; omega
              have t2 : ¬ ((kd : Nat) : Int) = 2 := by omega
              have b2 : (((kd : Nat) : Int) == 2) = false := by simp; omega
              have t3 : ¬ ((kd : Nat) : Int) = 3 := by omega
              have b3 : (((kd : Nat) : Int) == 3) = false := by simp; omega
              have t4 : ¬ ((kd : Nat) : Int) = 4 := by omega
              have b4 : (((kd : Nat) : Int) == 4) = false := by simp; omega
              have t5 : ¬ ((kd : Nat) : Int) = 5 := by omega
              have b5 : (((kd : Nat) : Int) == 5) = false := by simp; omega
              have HMT : Hid (∃ (y : Ax) (vp : Option Addr) (vn vc : Nat), Hid (RS W rb AB (.slice (some ⟨g, 0, none⟩) N cp) (ws ++ List.replicate pd []) y (.slice vp vn vc) wc ∧ FinP ws y ∧ vn = y.vals.length ∧ y.vals.length ≤ 1048576)) := keepH ⟨_, none, 0, 0, keepH ⟨HK.out, fin_0 HPS.out (by simp only; omega), rfl, by simp⟩⟩
              clear hk hk5 hk6 HK hkd
              go_wp2_with fail
              go_meet
              exact HMT.out
            · have h6N := hk6 (by omega)
              have k3 : (3 : Int) < (N : Int) := by omega
              have k4 : (4 : Int) < (N : Int) := by omega
              have k5 : (5 : Int) < (N : Int) := by omega
              have HKD := keepH hk
              have t1 : ((kd : Nat) : Int) = 1 := by omega
              have b1 : (((kd : Nat) : Int) == 1) = true := by simp; omega
              obtain ⟨f3, hf3⟩ := pad_get (ws := ws) (pd := List.replicate pd []) (j := 3) (by rw [← HNL.out]; omega)
              have e3 : wc.cell? ⟨g, 3, none⟩ = some (.string (mkS f3)) := HK.out.at HNL.out hf3
              have HF3 := keepH hf3
              clear hf3
              have hnu := HK.out.number HT.out f3 (HFL2.out f3 (List.mem_of_getElem? HF3.out))
              obtain ⟨s3, hs3⟩ : ∃ s, s = mkS f3 := ⟨_, rfl⟩
              rw [← hs3] at e3 hnu
              clear hs3 hk hk5 hk6 hkd
              go_wp2_with (first | (go_at_call 46; refine hnu.mono ?_; rintro e w7 ⟨v, rfl, ⟨u, rfl, hu, hnz⟩, h7⟩; have H7 := keepH h7; have HU := keepH hu; have HNZ := keepH hnz; have x2 : w7.cell? ⟨AB, 6, none⟩ = some (.int .u64 0) := cell_of H7.out.box 6; have z2 := free_of H7.out.box 6; clear hu hnz h7) | go_in)
              go_meet
              obtain rfl := HKD.out
              exact ⟨⟨th, 1, ad, 0, 0, [], u, false⟩, none, 0, 0, keepH ⟨H7.out.set 6 (.int .u64 (u : Int)) ⟨th, 1, ad, 0, 0, [], u, false⟩ rfl rfl, fin_1 HPS.out HF3.out HU.out HNZ.out, rfl, by simp⟩⟩
            · have h6N := hk6 (by omega)
              have k3 : (3 : Int) < (N : Int) := by omega
              have k4 : (4 : Int) < (N : Int) := by omega
              have k5 : (5 : Int) < (N : Int) := by omega
              have HKD := keepH hk
              have t1 : ¬ ((kd : Nat) : Int) = 1 := by omega
              have b1 : (((kd : Nat) : Int) == 1) = false := by simp; omega
              have t2 : ((kd : Nat) : Int) = 2 := by omega
              have b2 : (((kd : Nat) : Int) == 2) = true := by simp; omega
              obtain ⟨f3, hf3⟩ := pad_get (ws := ws) (pd := List.replicate pd []) (j := 3) (by rw [← HNL.out]; omega)
              have e3 : wc.cell? ⟨g, 3, none⟩ = some (.string (mkS f3)) := HK.out.at HNL.out hf3
              have HF3 := keepH hf3
              clear hf3
              have hnu := HK.out.number HT.out f3 (HFL2.out f3 (List.mem_of_getElem? HF3.out))
              obtain ⟨s3, hs3⟩ : ∃ s, s = mkS f3 := ⟨_, rfl⟩
              rw [← hs3] at e3 hnu
              clear hs3 hk hk5 hk6 hkd
              go_wp2_with (first | (go_at_call 46; refine hnu.mono ?_; rintro e w7 ⟨v, rfl, ⟨u, rfl, hu, hnz⟩, h7⟩; have H7 := keepH h7; have HU := keepH hu; have HNZ := keepH hnz; have x2 : w7.cell? ⟨AB, 3, none⟩ = some (.int .u64 0) := cell_of H7.out.box 3; have z2 := free_of H7.out.box 3; clear hu hnz h7) | go_in)
              go_meet
              obtain rfl := HKD.out
              exact ⟨⟨th, 2, ad, u, 0, [], 0, false⟩, none, 0, 0, keepH ⟨H7.out.set 3 (.int .u64 (u : Int)) ⟨th, 2, ad, u, 0, [], 0, false⟩ rfl rfl, fin_2 HPS.out HF3.out HU.out HNZ.out, rfl, by simp⟩⟩
            · have h6N := hk6 (by omega)
              have k3 : (3 : Int) < (N : Int) := by omega
              have k4 : (4 : Int) < (N : Int) := by omega
              have k5 : (5 : Int) < (N : Int) := by omega
              have HKD := keepH hk
              have t1 : ¬ ((kd : Nat) : Int) = 1 := by omega
              have b1 : (((kd : Nat) : Int) == 1) = false := by simp; omega
              have t2 : ¬ ((kd : Nat) : Int) = 2 := by omega
              have b2 : (((kd : Nat) : Int) == 2) = false := by simp; omega
              have t3 : ((kd : Nat) : Int) = 3 := by omega
              have b3 : (((kd : Nat) : Int) == 3) = true := by simp; omega
              obtain ⟨f3, hf3⟩ := pad_get (ws := ws) (pd := List.replicate pd []) (j := 3) (by rw [← HNL.out]; omega)
              have e3 : wc.cell? ⟨g, 3, none⟩ = some (.string (mkS f3)) := HK.out.at HNL.out hf3
              have HF3 := keepH hf3
              clear hf3
              obtain ⟨f4, hf4⟩ := pad_get (ws := ws) (pd := List.replicate pd []) (j := 4) (by rw [← HNL.out]; omega)
              have e4 : wc.cell? ⟨g, 4, none⟩ = some (.string (mkS f4)) := HK.out.at HNL.out hf4
              have HF4 := keepH hf4
              clear hf4
              obtain ⟨f5, hf5⟩ := pad_get (ws := ws) (pd := List.replicate pd []) (j := 5) (by rw [← HNL.out]; omega)
              have e5 : wc.cell? ⟨g, 5, none⟩ = some (.string (mkS f5)) := HK.out.at HNL.out hf5
              have HF5 := keepH hf5
              clear hf5
              have HNU3 : Hid (∀ w', RS W rb AB (.slice (some ⟨g, 0, none⟩) N cp) (ws ++ List.replicate pd []) ⟨th, kd, ad, 0, 0, [], 0, false⟩ (.slice none 0 0) w' → Calls Tryz.prog 46 #[.string (mkS f3)] w' fun e w2 => ∃ v, e = .returned v ∧ NumQ f3 v ∧ RS W rb AB (.slice (some ⟨g, 0, none⟩) N cp) (ws ++ List.replicate pd []) ⟨th, kd, ad, 0, 0, [], 0, false⟩ (.slice none 0 0) w2) := keepH (fun w' h' => h'.number HT.out f3 (HFL2.out f3 (List.mem_of_getElem? HF3.out)))
              have HNU4 : Hid (∀ w', RS W rb AB (.slice (some ⟨g, 0, none⟩) N cp) (ws ++ List.replicate pd []) ⟨th, kd, ad, 0, 0, [], 0, false⟩ (.slice none 0 0) w' → Calls Tryz.prog 46 #[.string (mkS f4)] w' fun e w2 => ∃ v, e = .returned v ∧ NumQ f4 v ∧ RS W rb AB (.slice (some ⟨g, 0, none⟩) N cp) (ws ++ List.replicate pd []) ⟨th, kd, ad, 0, 0, [], 0, false⟩ (.slice none 0 0) w2) := keepH (fun w' h' => h'.number HT.out f4 (HFL2.out f4 (List.mem_of_getElem? HF4.out)))
              have HSX : Hid (∀ w' (y : Ax), RS W rb AB (.slice (some ⟨g, 0, none⟩) N cp) (ws ++ List.replicate pd []) y (.slice none 0 0) w' → w'.cell? ⟨g, 3, none⟩ = some (.string (mkS f3)) ∧ w'.cell? ⟨g, 4, none⟩ = some (.string (mkS f4)) ∧ w'.cell? ⟨g, 5, none⟩ = some (.string (mkS f5))) := keepH (fun w' y h' => ⟨h'.at HNL.out HF3.out, h'.at HNL.out HF4.out, h'.at HNL.out HF5.out⟩)
              have hyb : ((mkS f5).toList == [121, 101, 115]) = decide (f5 = okL true) := by
                have e : (mkS (okL true)).toList = [121, 101, 115] := by first | rfl | decide | kernel_rfl | simp [okL]
                have q := beq_mkS f5 (okL true)
                rw [e] at q
                exact q
              obtain ⟨yb, hyb2⟩ : ∃ yb, yb = decide (f5 = okL true) := ⟨_, rfl⟩
              rw [← hyb2] at hyb
              have HYB := keepH hyb2
              clear hyb2
              obtain ⟨s3, hs3⟩ : ∃ s, s = mkS f3 := ⟨_, rfl⟩
              obtain ⟨s4, hs4⟩ : ∃ s, s = mkS f4 := ⟨_, rfl⟩
              obtain ⟨s5, hs5⟩ : ∃ s, s = mkS f5 := ⟨_, rfl⟩
              rw [← hs3] at e3 HNU3 HSX
              rw [← hs4] at e4 HNU4 HSX
              rw [← hs5] at e5 HSX hyb
              have HS0 := keepH (HSX.out wc _ HK.out)
              clear hk hk5 hk6 hkd hs3 e3 hs4 e4 hs5 e5
              go_upto_region 20 with fail
              refine wp_region_held_drew (S := fun w' => w'.cell? ⟨g, 3, none⟩ = some (.string s3) ∧ w'.cell? ⟨g, 4, none⟩ = some (.string s4) ∧ w'.cell? ⟨g, 5, none⟩ = some (.string s5)) (by kernel_rfl) (HS0.out) ?_
              intro hHeld
              refine wpAnyH_take (i := 0) (v := ?_) rfl (by kernel_rfl) (by kernel_rfl) (by kernel_rfl) (fun _ _ _ h => h) (Or.inl ⟨by rfl, ?_⟩) hHeld ?_
              rotate_left
              · intro w hSw
                (try dsimp only at hSw)
                go_simp
                try with_reducible rfl
              (try simp only [Act.put]); (try simp only [List.setIfInBounds_toArray]); (try simp only [List.getElem_toArray]); (repeat (first | simp only [List.getElem_cons_succ] | simp only [List.getElem_cons_zero])); (repeat (first | simp only [List.set_cons_succ] | simp only [List.set_cons_zero]))
              refine wpAnyH_take (i := 1) (v := ?_) rfl (by kernel_rfl) (by kernel_rfl) (by kernel_rfl) (fun _ _ _ h => h) (Or.inl ⟨by rfl, ?_⟩) hHeld ?_
              rotate_left
              · intro w hSw
                (try dsimp only at hSw)
                go_simp
                try with_reducible rfl
              (try simp only [Act.put]); (try simp only [List.setIfInBounds_toArray]); (try simp only [List.getElem_toArray]); (repeat (first | simp only [List.getElem_cons_succ] | simp only [List.getElem_cons_zero])); (repeat (first | simp only [List.set_cons_succ] | simp only [List.set_cons_zero]))
              refine wpAnyH_take (i := 2) (v := ?_) rfl (by kernel_rfl) (by kernel_rfl) (by kernel_rfl) (fun _ _ _ h => h) (Or.inl ⟨by rfl, ?_⟩) hHeld ?_
              rotate_left
              · intro w hSw
                (try dsimp only at hSw)
                have y1 := hSw.1
                go_simp
                try with_reducible rfl
              (try simp only [Act.put]); (try simp only [List.setIfInBounds_toArray]); (try simp only [List.getElem_toArray]); (repeat (first | simp only [List.getElem_cons_succ] | simp only [List.getElem_cons_zero])); (repeat (first | simp only [List.set_cons_succ] | simp only [List.set_cons_zero]))
              refine wpAnyH_take (i := 4) (v := ?_) rfl (by kernel_rfl) (by kernel_rfl) (by kernel_rfl) (fun _ _ _ h => h) (Or.inl ⟨by rfl, ?_⟩) hHeld ?_
              rotate_left
              · intro w hSw
                (try dsimp only at hSw)
                go_simp
                try with_reducible rfl
              (try simp only [Act.put]); (try simp only [List.setIfInBounds_toArray]); (try simp only [List.getElem_toArray]); (repeat (first | simp only [List.getElem_cons_succ] | simp only [List.getElem_cons_zero])); (repeat (first | simp only [List.set_cons_succ] | simp only [List.set_cons_zero]))
              refine wpAnyH_take (i := 5) (v := ?_) rfl (by kernel_rfl) (by kernel_rfl) (by kernel_rfl) (fun _ _ _ h => h) (Or.inl ⟨by rfl, ?_⟩) hHeld ?_
              rotate_left
              · intro w hSw
                (try dsimp only at hSw)
                go_simp
                try with_reducible rfl
              (try simp only [Act.put]); (try simp only [List.setIfInBounds_toArray]); (try simp only [List.getElem_toArray]); (repeat (first | simp only [List.getElem_cons_succ] | simp only [List.getElem_cons_zero])); (repeat (first | simp only [List.set_cons_succ] | simp only [List.set_cons_zero]))
              refine wpAnyH_take (i := 6) (v := ?_) rfl (by kernel_rfl) (by kernel_rfl) (by kernel_rfl) (fun _ _ _ h => h) (Or.inl ⟨by rfl, ?_⟩) hHeld ?_
              rotate_left
              · intro w hSw
                (try dsimp only at hSw)
                have y1 := hSw.2.1
                go_simp
                try with_reducible rfl
              (try simp only [Act.put]); (try simp only [List.setIfInBounds_toArray]); (try simp only [List.getElem_toArray]); (repeat (first | simp only [List.getElem_cons_succ] | simp only [List.getElem_cons_zero])); (repeat (first | simp only [List.set_cons_succ] | simp only [List.set_cons_zero]))
              refine wpAnyH_take (i := 8) (v := ?_) rfl (by kernel_rfl) (by kernel_rfl) (by kernel_rfl) (fun _ _ _ h => h) (Or.inl ⟨by rfl, ?_⟩) hHeld ?_
              rotate_left
              · intro w hSw
                (try dsimp only at hSw)
                go_simp
                try with_reducible rfl
              (try simp only [Act.put]); (try simp only [List.setIfInBounds_toArray]); (try simp only [List.getElem_toArray]); (repeat (first | simp only [List.getElem_cons_succ] | simp only [List.getElem_cons_zero])); (repeat (first | simp only [List.set_cons_succ] | simp only [List.set_cons_zero]))
              refine wpAnyH_take (i := 9) (v := ?_) rfl (by kernel_rfl) (by kernel_rfl) (by kernel_rfl) (fun _ _ _ h => h) (Or.inl ⟨by rfl, ?_⟩) hHeld ?_
              rotate_left
              · intro w hSw
                (try dsimp only at hSw)
                go_simp
                try with_reducible rfl
              (try simp only [Act.put]); (try simp only [List.setIfInBounds_toArray]); (try simp only [List.getElem_toArray]); (repeat (first | simp only [List.getElem_cons_succ] | simp only [List.getElem_cons_zero])); (repeat (first | simp only [List.set_cons_succ] | simp only [List.set_cons_zero]))
              refine wpAnyH_take (i := 10) (v := ?_) rfl (by kernel_rfl) (by kernel_rfl) (by kernel_rfl) (fun _ _ _ h => h) (Or.inl ⟨by rfl, ?_⟩) hHeld ?_
              rotate_left
              · intro w hSw
                (try dsimp only at hSw)
                have y1 := hSw.2.2
                go_simp
                try with_reducible rfl
              (try simp only [Act.put]); (try simp only [List.setIfInBounds_toArray]); (try simp only [List.getElem_toArray]); (repeat (first | simp only [List.getElem_cons_succ] | simp only [List.getElem_cons_zero])); (repeat (first | simp only [List.set_cons_succ] | simp only [List.set_cons_zero]))
              refine wpAnyH_take (i := 11) (v := ?_) rfl (by kernel_rfl) (by kernel_rfl) (by kernel_rfl) (fun _ _ _ h => h) (Or.inl ⟨by rfl, ?_⟩) hHeld ?_
              rotate_left
              · intro w hSw
                (try dsimp only at hSw)
                go_simp
                try with_reducible rfl
              (try simp only [Act.put]); (try simp only [List.setIfInBounds_toArray]); (try simp only [List.getElem_toArray]); (repeat (first | simp only [List.getElem_cons_succ] | simp only [List.getElem_cons_zero])); (repeat (first | simp only [List.set_cons_succ] | simp only [List.set_cons_zero]))
              refine wpAnyH_ready (rs := [3]) (by kernel_rfl) (by simp) ?_
              refine AllReadyH.cons rfl (fun KK hKK => ?_) AllReadyH.nil
              go_simp
              refine (HNU3.out _ (HK.out.dn _)).mono ?_
              rintro e w7 ⟨v, rfl, ⟨u, rfl, hu, hnz⟩, h7⟩
              have H7 := keepH h7
              have HU := keepH hu
              have HNZ := keepH hnz
              clear hu hnz h7
              refine hKK.out _ _ ?_ (fun hHeld => ?_)
              · exact HSX.out _ _ H7.out
              clear hKK KK
              (try simp only [Act.put]); (try simp only [List.setIfInBounds_toArray]); (try simp only [List.getElem_toArray]); (repeat (first | simp only [List.getElem_cons_succ] | simp only [List.getElem_cons_zero])); (repeat (first | simp only [List.set_cons_succ] | simp only [List.set_cons_zero]))
              refine wpAnyH_take (i := 12) (v := ?_) rfl (by kernel_rfl) (by kernel_rfl) (by kernel_rfl) (fun _ _ _ h => h) (Or.inl ⟨by rfl, ?_⟩) hHeld ?_
              rotate_left
              · intro w hSw
                (try dsimp only at hSw)
                go_simp
                try with_reducible rfl
              (try simp only [Act.put]); (try simp only [List.setIfInBounds_toArray]); (try simp only [List.getElem_toArray]); (repeat (first | simp only [List.getElem_cons_succ] | simp only [List.getElem_cons_zero])); (repeat (first | simp only [List.set_cons_succ] | simp only [List.set_cons_zero]))
              refine wpAnyH_ready (rs := [7]) (by kernel_rfl) (by simp) ?_
              refine AllReadyH.cons rfl (fun KK hKK => ?_) AllReadyH.nil
              go_simp
              refine (HNU4.out _ H7.out).mono ?_
              rintro e w8 ⟨v, rfl, ⟨u', rfl, hu, hnz⟩, h8⟩
              have H8 := keepH h8
              have HU' := keepH hu
              have HNZ' := keepH hnz
              clear hu hnz h8
              refine hKK.out _ _ ?_ (fun hHeld => ?_)
              · exact HSX.out _ _ H8.out
              clear hKK KK
              (try simp only [Act.put]); (try simp only [List.setIfInBounds_toArray]); (try simp only [List.getElem_toArray]); (repeat (first | simp only [List.getElem_cons_succ] | simp only [List.getElem_cons_zero])); (repeat (first | simp only [List.set_cons_succ] | simp only [List.set_cons_zero]))
              refine wpAnyH_ready (rs := [13]) (by kernel_rfl) (by simp) ?_
              refine AllReadyH.cons rfl (fun KK hKK => ?_) AllReadyH.nil
              have H9x : Hid (RS W rb AB (.slice (some ⟨g, 0, none⟩) N cp) (ws ++ List.replicate pd []) ⟨th, kd, ad, u, 0, [], 0, false⟩ (.slice none 0 0) (w8.setCell ⟨AB, 3, none⟩ (.int .u64 (u : Int)))) := keepH (H8.out.set 3 (.int .u64 (u : Int)) ⟨th, kd, ad, u, 0, [], 0, false⟩ rfl rfl)
              have x2 : w8.cell? ⟨AB, 3, none⟩ = some (.int .u64 0) := cell_of H8.out.box 3
              have z2 := free_of H8.out.box 3
              go_simp
              refine hKK.out _ _ ?_ (fun hHeld => ?_)
              · exact HSX.out _ _ H9x.out
              clear hKK KK
              (try simp only [Act.put]); (try simp only [List.setIfInBounds_toArray]); (try simp only [List.getElem_toArray]); (repeat (first | simp only [List.getElem_cons_succ] | simp only [List.getElem_cons_zero])); (repeat (first | simp only [List.set_cons_succ] | simp only [List.set_cons_zero]))
              obtain ⟨w9, hw9⟩ : ∃ w, w = (w8.setCell ⟨AB, 3, none⟩ (.int .u64 (u : Int))) := ⟨_, rfl⟩
              rw [← hw9] at H9x hHeld ⊢
              have H9 := H9x
              clear hw9 H9x x2 z2
              refine wpAnyH_take (i := 14) (v := ?_) rfl (by kernel_rfl) (by kernel_rfl) (by kernel_rfl) (fun _ _ _ h => h) (Or.inl ⟨by rfl, ?_⟩) hHeld ?_
              rotate_left
              · intro w hSw
                (try dsimp only at hSw)
                go_simp
                try with_reducible rfl
              (try simp only [Act.put]); (try simp only [List.setIfInBounds_toArray]); (try simp only [List.getElem_toArray]); (repeat (first | simp only [List.getElem_cons_succ] | simp only [List.getElem_cons_zero])); (repeat (first | simp only [List.set_cons_succ] | simp only [List.set_cons_zero]))
              refine wpAnyH_ready (rs := [15]) (by kernel_rfl) (by simp) ?_
              refine AllReadyH.cons rfl (fun KK hKK => ?_) AllReadyH.nil
              have HAx : Hid (RS W rb AB (.slice (some ⟨g, 0, none⟩) N cp) (ws ++ List.replicate pd []) ⟨th, kd, ad, u, u', [], 0, false⟩ (.slice none 0 0) (w9.setCell ⟨AB, 4, none⟩ (.int .u64 (u' : Int)))) := keepH (H9.out.set 4 (.int .u64 (u' : Int)) ⟨th, kd, ad, u, u', [], 0, false⟩ rfl rfl)
              have x2 : w9.cell? ⟨AB, 4, none⟩ = some (.int .u64 0) := cell_of H9.out.box 4
              have z2 := free_of H9.out.box 4
              go_simp
              refine hKK.out _ _ ?_ (fun hHeld => ?_)
              · exact HSX.out _ _ HAx.out
              clear hKK KK
              (try simp only [Act.put]); (try simp only [List.setIfInBounds_toArray]); (try simp only [List.getElem_toArray]); (repeat (first | simp only [List.getElem_cons_succ] | simp only [List.getElem_cons_zero])); (repeat (first | simp only [List.set_cons_succ] | simp only [List.set_cons_zero]))
              obtain ⟨wA, hwA⟩ : ∃ w, w = (w9.setCell ⟨AB, 4, none⟩ (.int .u64 (u' : Int))) := ⟨_, rfl⟩
              rw [← hwA] at HAx hHeld ⊢
              have HA := HAx
              clear hwA HAx x2 z2
              refine wpAnyH_take (i := 16) (v := ?_) rfl (by kernel_rfl) (by kernel_rfl) (by kernel_rfl) (fun _ _ _ h => h) (Or.inl ⟨by rfl, ?_⟩) hHeld ?_
              rotate_left
              · intro w hSw
                (try dsimp only at hSw)
                go_simp
                try with_reducible rfl
              (try simp only [Act.put]); (try simp only [List.setIfInBounds_toArray]); (try simp only [List.getElem_toArray]); (repeat (first | simp only [List.getElem_cons_succ] | simp only [List.getElem_cons_zero])); (repeat (first | simp only [List.set_cons_succ] | simp only [List.set_cons_zero]))
              refine wpAnyH_ready (rs := [17]) (by kernel_rfl) (by simp) ?_
              refine AllReadyH.cons rfl (fun KK hKK => ?_) AllReadyH.nil
              have HBx : Hid (RS W rb AB (.slice (some ⟨g, 0, none⟩) N cp) (ws ++ List.replicate pd []) ⟨th, kd, ad, u, u', [], 0, yb⟩ (.slice none 0 0) (wA.setCell ⟨AB, 7, none⟩ (.bool yb))) := keepH (HA.out.set 7 (.bool yb) ⟨th, kd, ad, u, u', [], 0, yb⟩ rfl rfl)
              have x2 : wA.cell? ⟨AB, 7, none⟩ = some (.bool false) := cell_of HA.out.box 7
              have z2 := free_of HA.out.box 7
              go_simp
              refine hKK.out _ _ ?_ (fun hHeld => ?_)
              · exact HSX.out _ _ HBx.out
              clear hKK KK
              (try simp only [Act.put]); (try simp only [List.setIfInBounds_toArray]); (try simp only [List.getElem_toArray]); (repeat (first | simp only [List.getElem_cons_succ] | simp only [List.getElem_cons_zero])); (repeat (first | simp only [List.set_cons_succ] | simp only [List.set_cons_zero]))
              obtain ⟨wB, hwB⟩ : ∃ w, w = (wA.setCell ⟨AB, 7, none⟩ (.bool yb)) := ⟨_, rfl⟩
              rw [← hwB] at HBx hHeld ⊢
              have HB := HBx
              clear hwB HBx x2 z2
              refine wpAnyH_done (by kernel_rfl) ?_ _
              go_simp
              clear hHeld
              go_wp2_with fail
              go_meet
              obtain rfl := HKD.out
              obtain rfl := HYB.out
              exact ⟨⟨th, 3, ad, u, u', [], 0, _⟩, none, 0, 0, keepH ⟨HB.out, fin_3 HPS.out HF3.out HF4.out HF5.out HU.out HNZ.out HU'.out HNZ'.out, rfl, by simp⟩⟩
            · have h6N := hk6 (by omega)
              have k3 : (3 : Int) < (N : Int) := by omega
              have k4 : (4 : Int) < (N : Int) := by omega
              have k5 : (5 : Int) < (N : Int) := by omega
              have HKD := keepH hk
              have t1 : ¬ ((kd : Nat) : Int) = 1 := by omega
              have b1 : (((kd : Nat) : Int) == 1) = false := by simp; omega
              have t2 : ¬ ((kd : Nat) : Int) = 2 := by omega
              have b2 : (((kd : Nat) : Int) == 2) = false := by simp; omega
              have t3 : ¬ ((kd : Nat) : Int) = 3 := by omega
              have b3 : (((kd : Nat) : Int) == 3) = false := by simp; omega
              have t4 : ((kd : Nat) : Int) = 4 := by omega
              have b4 : (((kd : Nat) : Int) == 4) = true := by simp; omega
              obtain ⟨f3, hf3⟩ := pad_get (ws := ws) (pd := List.replicate pd []) (j := 3) (by rw [← HNL.out]; omega)
              have e3 : wc.cell? ⟨g, 3, none⟩ = some (.string (mkS f3)) := HK.out.at HNL.out hf3
              have HF3 := keepH hf3
              clear hf3
              obtain ⟨f4, hf4⟩ := pad_get (ws := ws) (pd := List.replicate pd []) (j := 4) (by rw [← HNL.out]; omega)
              have e4 : wc.cell? ⟨g, 4, none⟩ = some (.string (mkS f4)) := HK.out.at HNL.out hf4
              have HF4 := keepH hf4
              clear hf4
              have HNU3 : Hid (∀ w', RS W rb AB (.slice (some ⟨g, 0, none⟩) N cp) (ws ++ List.replicate pd []) ⟨th, kd, ad, 0, 0, [], 0, false⟩ (.slice none 0 0) w' → Calls Tryz.prog 46 #[.string (mkS f3)] w' fun e w2 => ∃ v, e = .returned v ∧ NumQ f3 v ∧ RS W rb AB (.slice (some ⟨g, 0, none⟩) N cp) (ws ++ List.replicate pd []) ⟨th, kd, ad, 0, 0, [], 0, false⟩ (.slice none 0 0) w2) := keepH (fun w' h' => h'.number HT.out f3 (HFL2.out f3 (List.mem_of_getElem? HF3.out)))
              have HNU4 : Hid (∀ w', RS W rb AB (.slice (some ⟨g, 0, none⟩) N cp) (ws ++ List.replicate pd []) ⟨th, kd, ad, 0, 0, [], 0, false⟩ (.slice none 0 0) w' → Calls Tryz.prog 46 #[.string (mkS f4)] w' fun e w2 => ∃ v, e = .returned v ∧ NumQ f4 v ∧ RS W rb AB (.slice (some ⟨g, 0, none⟩) N cp) (ws ++ List.replicate pd []) ⟨th, kd, ad, 0, 0, [], 0, false⟩ (.slice none 0 0) w2) := keepH (fun w' h' => h'.number HT.out f4 (HFL2.out f4 (List.mem_of_getElem? HF4.out)))
              have HSX : Hid (∀ w' (y : Ax), RS W rb AB (.slice (some ⟨g, 0, none⟩) N cp) (ws ++ List.replicate pd []) y (.slice none 0 0) w' → w'.cell? ⟨g, 3, none⟩ = some (.string (mkS f3)) ∧ w'.cell? ⟨g, 4, none⟩ = some (.string (mkS f4))) := keepH (fun w' y h' => ⟨h'.at HNL.out HF3.out, h'.at HNL.out HF4.out⟩)
              obtain ⟨s3, hs3⟩ : ∃ s, s = mkS f3 := ⟨_, rfl⟩
              obtain ⟨s4, hs4⟩ : ∃ s, s = mkS f4 := ⟨_, rfl⟩
              rw [← hs3] at e3 HNU3 HSX
              rw [← hs4] at e4 HNU4 HSX
              have HS0 := keepH (HSX.out wc _ HK.out)
              clear hk hk5 hk6 hkd hs3 e3 hs4 e4
              go_upto_region 22 with fail
              refine wp_region_held_drew (S := fun w' => w'.cell? ⟨g, 3, none⟩ = some (.string s3) ∧ w'.cell? ⟨g, 4, none⟩ = some (.string s4)) (by kernel_rfl) (HS0.out) ?_
              intro hHeld
              refine wpAnyH_take (i := 0) (v := ?_) rfl (by kernel_rfl) (by kernel_rfl) (by kernel_rfl) (fun _ _ _ h => h) (Or.inl ⟨by rfl, ?_⟩) hHeld ?_
              rotate_left
              · intro w hSw
                (try dsimp only at hSw)
                go_simp
                try with_reducible rfl
              (try simp only [Act.put]); (try simp only [List.setIfInBounds_toArray]); (try simp only [List.getElem_toArray]); (repeat (first | simp only [List.getElem_cons_succ] | simp only [List.getElem_cons_zero])); (repeat (first | simp only [List.set_cons_succ] | simp only [List.set_cons_zero]))
              refine wpAnyH_take (i := 1) (v := ?_) rfl (by kernel_rfl) (by kernel_rfl) (by kernel_rfl) (fun _ _ _ h => h) (Or.inl ⟨by rfl, ?_⟩) hHeld ?_
              rotate_left
              · intro w hSw
                (try dsimp only at hSw)
                go_simp
                try with_reducible rfl
              (try simp only [Act.put]); (try simp only [List.setIfInBounds_toArray]); (try simp only [List.getElem_toArray]); (repeat (first | simp only [List.getElem_cons_succ] | simp only [List.getElem_cons_zero])); (repeat (first | simp only [List.set_cons_succ] | simp only [List.set_cons_zero]))
              refine wpAnyH_take (i := 2) (v := ?_) rfl (by kernel_rfl) (by kernel_rfl) (by kernel_rfl) (fun _ _ _ h => h) (Or.inl ⟨by rfl, ?_⟩) hHeld ?_
              rotate_left
              · intro w hSw
                (try dsimp only at hSw)
                have y1 := hSw.1
                go_simp
                try with_reducible rfl
              (try simp only [Act.put]); (try simp only [List.setIfInBounds_toArray]); (try simp only [List.getElem_toArray]); (repeat (first | simp only [List.getElem_cons_succ] | simp only [List.getElem_cons_zero])); (repeat (first | simp only [List.set_cons_succ] | simp only [List.set_cons_zero]))
              refine wpAnyH_take (i := 4) (v := ?_) rfl (by kernel_rfl) (by kernel_rfl) (by kernel_rfl) (fun _ _ _ h => h) (Or.inl ⟨by rfl, ?_⟩) hHeld ?_
              rotate_left
              · intro w hSw
                (try dsimp only at hSw)
                go_simp
                try with_reducible rfl
              (try simp only [Act.put]); (try simp only [List.setIfInBounds_toArray]); (try simp only [List.getElem_toArray]); (repeat (first | simp only [List.getElem_cons_succ] | simp only [List.getElem_cons_zero])); (repeat (first | simp only [List.set_cons_succ] | simp only [List.set_cons_zero]))
              refine wpAnyH_take (i := 5) (v := ?_) rfl (by kernel_rfl) (by kernel_rfl) (by kernel_rfl) (fun _ _ _ h => h) (Or.inl ⟨by rfl, ?_⟩) hHeld ?_
              rotate_left
              · intro w hSw
                (try dsimp only at hSw)
                go_simp
                try with_reducible rfl
              (try simp only [Act.put]); (try simp only [List.setIfInBounds_toArray]); (try simp only [List.getElem_toArray]); (repeat (first | simp only [List.getElem_cons_succ] | simp only [List.getElem_cons_zero])); (repeat (first | simp only [List.set_cons_succ] | simp only [List.set_cons_zero]))
              refine wpAnyH_take (i := 6) (v := ?_) rfl (by kernel_rfl) (by kernel_rfl) (by kernel_rfl) (fun _ _ _ h => h) (Or.inl ⟨by rfl, ?_⟩) hHeld ?_
              rotate_left
              · intro w hSw
                (try dsimp only at hSw)
                have y1 := hSw.2
                go_simp
                try with_reducible rfl
              (try simp only [Act.put]); (try simp only [List.setIfInBounds_toArray]); (try simp only [List.getElem_toArray]); (repeat (first | simp only [List.getElem_cons_succ] | simp only [List.getElem_cons_zero])); (repeat (first | simp only [List.set_cons_succ] | simp only [List.set_cons_zero]))
              refine wpAnyH_ready (rs := [3]) (by kernel_rfl) (by simp) ?_
              refine AllReadyH.cons rfl (fun KK hKK => ?_) AllReadyH.nil
              go_simp
              refine (HNU3.out _ (HK.out.dn _)).mono ?_
              rintro e w7 ⟨v, rfl, ⟨u, rfl, hu, hnz⟩, h7⟩
              have H7 := keepH h7
              have HU := keepH hu
              have HNZ := keepH hnz
              clear hu hnz h7
              refine hKK.out _ _ ?_ (fun hHeld => ?_)
              · exact HSX.out _ _ H7.out
              clear hKK KK
              (try simp only [Act.put]); (try simp only [List.setIfInBounds_toArray]); (try simp only [List.getElem_toArray]); (repeat (first | simp only [List.getElem_cons_succ] | simp only [List.getElem_cons_zero])); (repeat (first | simp only [List.set_cons_succ] | simp only [List.set_cons_zero]))
              refine wpAnyH_take (i := 8) (v := ?_) rfl (by kernel_rfl) (by kernel_rfl) (by kernel_rfl) (fun _ _ _ h => h) (Or.inl ⟨by rfl, ?_⟩) hHeld ?_
              rotate_left
              · intro w hSw
                (try dsimp only at hSw)
                go_simp
                try with_reducible rfl
              (try simp only [Act.put]); (try simp only [List.setIfInBounds_toArray]); (try simp only [List.getElem_toArray]); (repeat (first | simp only [List.getElem_cons_succ] | simp only [List.getElem_cons_zero])); (repeat (first | simp only [List.set_cons_succ] | simp only [List.set_cons_zero]))
              refine wpAnyH_ready (rs := [7]) (by kernel_rfl) (by simp) ?_
              refine AllReadyH.cons rfl (fun KK hKK => ?_) AllReadyH.nil
              go_simp
              refine (HNU4.out _ H7.out).mono ?_
              rintro e w8 ⟨v, rfl, ⟨u', rfl, hu, hnz⟩, h8⟩
              have H8 := keepH h8
              have HU' := keepH hu
              have HNZ' := keepH hnz
              clear hu hnz h8
              refine hKK.out _ _ ?_ (fun hHeld => ?_)
              · exact HSX.out _ _ H8.out
              clear hKK KK
              (try simp only [Act.put]); (try simp only [List.setIfInBounds_toArray]); (try simp only [List.getElem_toArray]); (repeat (first | simp only [List.getElem_cons_succ] | simp only [List.getElem_cons_zero])); (repeat (first | simp only [List.set_cons_succ] | simp only [List.set_cons_zero]))
              refine wpAnyH_ready (rs := [9]) (by kernel_rfl) (by simp) ?_
              refine AllReadyH.cons rfl (fun KK hKK => ?_) AllReadyH.nil
              have H9x : Hid (RS W rb AB (.slice (some ⟨g, 0, none⟩) N cp) (ws ++ List.replicate pd []) ⟨th, kd, ad, u, 0, [], 0, false⟩ (.slice none 0 0) (w8.setCell ⟨AB, 3, none⟩ (.int .u64 (u : Int)))) := keepH (H8.out.set 3 (.int .u64 (u : Int)) ⟨th, kd, ad, u, 0, [], 0, false⟩ rfl rfl)
              have x2 : w8.cell? ⟨AB, 3, none⟩ = some (.int .u64 0) := cell_of H8.out.box 3
              have z2 := free_of H8.out.box 3
              go_simp
              refine hKK.out _ _ ?_ (fun hHeld => ?_)
              · exact HSX.out _ _ H9x.out
              clear hKK KK
              (try simp only [Act.put]); (try simp only [List.setIfInBounds_toArray]); (try simp only [List.getElem_toArray]); (repeat (first | simp only [List.getElem_cons_succ] | simp only [List.getElem_cons_zero])); (repeat (first | simp only [List.set_cons_succ] | simp only [List.set_cons_zero]))
              obtain ⟨w9, hw9⟩ : ∃ w, w = (w8.setCell ⟨AB, 3, none⟩ (.int .u64 (u : Int))) := ⟨_, rfl⟩
              rw [← hw9] at H9x hHeld ⊢
              have H9 := H9x
              clear hw9 H9x x2 z2
              refine wpAnyH_take (i := 10) (v := ?_) rfl (by kernel_rfl) (by kernel_rfl) (by kernel_rfl) (fun _ _ _ h => h) (Or.inl ⟨by rfl, ?_⟩) hHeld ?_
              rotate_left
              · intro w hSw
                (try dsimp only at hSw)
                go_simp
                try with_reducible rfl
              (try simp only [Act.put]); (try simp only [List.setIfInBounds_toArray]); (try simp only [List.getElem_toArray]); (repeat (first | simp only [List.getElem_cons_succ] | simp only [List.getElem_cons_zero])); (repeat (first | simp only [List.set_cons_succ] | simp only [List.set_cons_zero]))
              refine wpAnyH_ready (rs := [11]) (by kernel_rfl) (by simp) ?_
              refine AllReadyH.cons rfl (fun KK hKK => ?_) AllReadyH.nil
              have HAx : Hid (RS W rb AB (.slice (some ⟨g, 0, none⟩) N cp) (ws ++ List.replicate pd []) ⟨th, kd, ad, u, 0, [], u', false⟩ (.slice none 0 0) (w9.setCell ⟨AB, 6, none⟩ (.int .u64 (u' : Int)))) := keepH (H9.out.set 6 (.int .u64 (u' : Int)) ⟨th, kd, ad, u, 0, [], u', false⟩ rfl rfl)
              have x2 : w9.cell? ⟨AB, 6, none⟩ = some (.int .u64 0) := cell_of H9.out.box 6
              have z2 := free_of H9.out.box 6
              go_simp
              refine hKK.out _ _ ?_ (fun hHeld => ?_)
              · exact HSX.out _ _ HAx.out
              clear hKK KK
              (try simp only [Act.put]); (try simp only [List.setIfInBounds_toArray]); (try simp only [List.getElem_toArray]); (repeat (first | simp only [List.getElem_cons_succ] | simp only [List.getElem_cons_zero])); (repeat (first | simp only [List.set_cons_succ] | simp only [List.set_cons_zero]))
              obtain ⟨wA, hwA⟩ : ∃ w, w = (w9.setCell ⟨AB, 6, none⟩ (.int .u64 (u' : Int))) := ⟨_, rfl⟩
              rw [← hwA] at HAx hHeld ⊢
              have HA := HAx
              clear hwA HAx x2 z2
              refine wpAnyH_done (by kernel_rfl) ?_ _
              go_simp
              clear hHeld
              go_wp2_with fail
              go_meet
              obtain rfl := HKD.out
              exact ⟨⟨th, 4, ad, u, 0, [], u', false⟩, none, 0, 0, keepH ⟨HA.out, fin_4 HPS.out HF3.out HF4.out HU.out HNZ.out HU'.out HNZ'.out, rfl, by simp⟩⟩
            · have HKD := keepH hk
              obtain ⟨hNc, hpd⟩ := hk5 hk
              subst hpd
              have HK5 : Hid (RS W rb AB (.slice (some ⟨g, 0, none⟩) N cp) ws ⟨th, kd, ad, 0, 0, [], 0, false⟩ (.slice none 0 0) wc) := keepH (by simpa using HK.out)
              have HNW : Hid (N = ws.length) := keepH (by simpa using HNL.out)
              have t1 : ¬ ((kd : Nat) : Int) = 1 := by omega
              have b1 : (((kd : Nat) : Int) == 1) = false := by simp; omega
              have t2 : ¬ ((kd : Nat) : Int) = 2 := by omega
              have b2 : (((kd : Nat) : Int) == 2) = false := by simp; omega
              have t3 : ¬ ((kd : Nat) : Int) = 3 := by omega
              have b3 : (((kd : Nat) : Int) == 3) = false := by simp; omega
              have t4 : ¬ ((kd : Nat) : Int) = 4 := by omega
              have b4 : (((kd : Nat) : Int) == 4) = false := by simp; omega
              have t5 : ((kd : Nat) : Int) = 5 := by omega
              have b5 : (((kd : Nat) : Int) == 5) = true := by simp; omega
              clear hk hk5 hk6 hkd HK HNL HFL2
              go_wp2_with fail
              go_loopw [7] (fun s7 wr => ∃ (i : Nat), s7 = .int .i64 (i : Int) ∧ 3 ≤ i ∧ i ≤ N ∧ Hid (VIv W rb AB (.slice (some ⟨g, 0, none⟩) N cp) ws th kd ad i wr)) (fun s7 _ => N - (intOf s7).toNat)
              case atStart => exact ⟨3, rfl, by omega, by omega, keepH ⟨[], none, 0, 0, by omega, HK5.out, ⟨rfl, fun j u h => by simp at h⟩, rfl⟩⟩
              case round =>
                clear HK5
                obtain ⟨i, rfl, hi3, hiN, HV0⟩ := hrel
                obtain ⟨us, vp, vn, vc, hvi, hV⟩ := HV0.out
                have HV := keepH hV
                clear hV HV0
                by_cases hlt : i < N
                · have q1 : (i : Int) < (N : Int) := by omega
                  have q0 : (0 : Int) ≤ (i : Int) := by omega
                  obtain ⟨f, hf⟩ : ∃ f, ws[i]? = some f := ⟨_, List.getElem?_eq_getElem (by rw [← HNW.out]; exact hlt)⟩
                  have HF9 := keepH hf
                  have HSX : Hid (∀ w' : World, w'.ownsRow 0 9 1 (.slice (some ⟨g, 0, none⟩) N cp) ws.length (strsRow ws) → w'.cell? ⟨g, i, none⟩ = some (.string (mkS f))) := keepH (fun w' h' => row_at h' HNW.out hf)
                  have HNU : Hid (∀ w', RS W rb AB (.slice (some ⟨g, 0, none⟩) N cp) ws ⟨th, kd, ad, 0, 0, us, 0, false⟩ (.slice vp vn vc) w' → Calls Tryz.prog 46 #[.string (mkS f)] w' fun e w2 => ∃ v, e = .returned v ∧ NumQ f v ∧ RS W rb AB (.slice (some ⟨g, 0, none⟩) N cp) ws ⟨th, kd, ad, 0, 0, us, 0, false⟩ (.slice vp vn vc) w2) := keepH (fun w' h' => h'.number HT.out f (HFL.out f (List.mem_of_getElem? hf)))
                  have HAP := keepH (fun (w' : World) (u : Nat) (ty : TypeId) (h' : RS W rb AB (.slice (some ⟨g, 0, none⟩) N cp) ws ⟨th, kd, ad, 0, 0, us, 0, false⟩ (.slice vp vn vc) w') => h'.app HV.out.2.2 (by omega) u ty)
                  obtain ⟨sf, hsf⟩ : ∃ s, s = mkS f := ⟨_, rfl⟩
                  rw [← hsf] at HSX HNU
                  have HS0 := keepH (HSX.out wr HV.out.1.row)
                  have y5 : wr.cell? ⟨AB, 5, none⟩ = some (.slice vp vn vc) := cell_of HV.out.1.box 5
                  clear hf hsf
                  go_upto_region 27 with fail
                  refine wp_region_held_drew (S := fun w' => w'.cell? ⟨g, i, none⟩ = some (.string sf)) (by kernel_rfl) (HS0.out) ?_
                  intro hHeld
                  refine wpAnyH_take (i := 0) (v := ?_) rfl (by kernel_rfl) (by kernel_rfl) (by kernel_rfl) (fun _ _ _ h => h) (Or.inl ⟨by rfl, ?_⟩) hHeld ?_
                  rotate_left
                  · intro w hSw
                    (try dsimp only at hSw)
                    go_simp
                    try with_reducible rfl
                  (try simp only [Act.put]); (try simp only [List.setIfInBounds_toArray]); (try simp only [List.getElem_toArray]); (repeat (first | simp only [List.getElem_cons_succ] | simp only [List.getElem_cons_zero])); (repeat (first | simp only [List.set_cons_succ] | simp only [List.set_cons_zero]))
                  refine wpAnyH_take (i := 2) (v := ?_) rfl (by kernel_rfl) (by kernel_rfl) (by kernel_rfl) (fun _ _ _ h => h) (Or.inl ⟨by rfl, ?_⟩) hHeld ?_
                  rotate_left
                  · intro w hSw
                    (try dsimp only at hSw)
                    go_simp
                    try with_reducible rfl
                  (try simp only [Act.put]); (try simp only [List.setIfInBounds_toArray]); (try simp only [List.getElem_toArray]); (repeat (first | simp only [List.getElem_cons_succ] | simp only [List.getElem_cons_zero])); (repeat (first | simp only [List.set_cons_succ] | simp only [List.set_cons_zero]))
                  refine wpAnyH_take (i := 3) (v := ?_) rfl (by kernel_rfl) (by kernel_rfl) (by kernel_rfl) (fun _ _ _ h => h) (Or.inl ⟨by rfl, ?_⟩) hHeld ?_
                  rotate_left
                  · intro w hSw
                    (try dsimp only at hSw)
                    go_simp
                    try with_reducible rfl
                  (try simp only [Act.put]); (try simp only [List.setIfInBounds_toArray]); (try simp only [List.getElem_toArray]); (repeat (first | simp only [List.getElem_cons_succ] | simp only [List.getElem_cons_zero])); (repeat (first | simp only [List.set_cons_succ] | simp only [List.set_cons_zero]))
                  refine wpAnyH_take (i := 4) (v := ?_) rfl (by kernel_rfl) (by kernel_rfl) (by kernel_rfl) (fun _ _ _ h => h) (Or.inl ⟨by rfl, ?_⟩) hHeld ?_
                  rotate_left
                  · intro w hSw
                    (try dsimp only at hSw)
                    go_simp
                    try with_reducible rfl
                  (try simp only [Act.put]); (try simp only [List.setIfInBounds_toArray]); (try simp only [List.getElem_toArray]); (repeat (first | simp only [List.getElem_cons_succ] | simp only [List.getElem_cons_zero])); (repeat (first | simp only [List.set_cons_succ] | simp only [List.set_cons_zero]))
                  refine wpAnyH_take (i := 5) (v := ?_) rfl (by kernel_rfl) (by kernel_rfl) (by kernel_rfl) (fun _ _ _ h => h) (Or.inl ⟨by rfl, ?_⟩) hHeld ?_
                  rotate_left
                  · intro w hSw
                    (try dsimp only at hSw)
                    go_simp
                    try with_reducible rfl
                  (try simp only [Act.put]); (try simp only [List.setIfInBounds_toArray]); (try simp only [List.getElem_toArray]); (repeat (first | simp only [List.getElem_cons_succ] | simp only [List.getElem_cons_zero])); (repeat (first | simp only [List.set_cons_succ] | simp only [List.set_cons_zero]))
                  refine wpAnyH_ready (rs := [1, 6]) (by kernel_rfl) (by simp) ?_
                  refine AllReadyH.cons rfl (fun KK hKK => ?_) (AllReadyH.cons rfl (fun KK hKK => ?_) AllReadyH.nil)
                  · go_simp
                    refine hKK.out _ _ ?_ (fun hHeld => ?_)
                    · exact HS0.out
                    clear hKK KK
                    (try simp only [Act.put]); (try simp only [List.setIfInBounds_toArray]); (try simp only [List.getElem_toArray]); (repeat (first | simp only [List.getElem_cons_succ] | simp only [List.getElem_cons_zero])); (repeat (first | simp only [List.set_cons_succ] | simp only [List.set_cons_zero]))
                    refine wpAnyH_ready (rs := [6]) (by kernel_rfl) (by simp) ?_
                    refine AllReadyH.cons rfl (fun KK hKK => ?_) AllReadyH.nil
                    go_simp
                    refine (HNU.out _ (HV.out.1.dn _)).mono ?_
                    rintro e w7 ⟨v, rfl, ⟨u, rfl, hu, hnz⟩, h7⟩
                    have H7 := keepH h7
                    have HU := keepH hu
                    have HNZ := keepH hnz
                    clear hu hnz h7
                    refine hKK.out _ _ ?_ (fun hHeld => ?_)
                    · exact HSX.out _ H7.out.row
                    clear hKK KK
                    (try simp only [Act.put]); (try simp only [List.setIfInBounds_toArray]); (try simp only [List.getElem_toArray]); (repeat (first | simp only [List.getElem_cons_succ] | simp only [List.getElem_cons_zero])); (repeat (first | simp only [List.set_cons_succ] | simp only [List.set_cons_zero]))
                    refine wpAnyH_ready (rs := [7]) (by kernel_rfl) (by simp) ?_
                    refine AllReadyH.cons rfl (fun KK hKK => ?_) AllReadyH.nil
                    go_simp
                    refine hKK.out _ _ ?_ (fun hHeld => ?_)
                    · exact HSX.out _ (H7.out.on (below_alloc _ _)).row
                    clear hKK KK
                    (try simp only [Act.put]); (try simp only [List.setIfInBounds_toArray]); (try simp only [List.getElem_toArray]); (repeat (first | simp only [List.getElem_cons_succ] | simp only [List.getElem_cons_zero])); (repeat (first | simp only [List.set_cons_succ] | simp only [List.set_cons_zero]))
                    refine wpAnyH_ready (rs := [8]) (by kernel_rfl) (by simp) ?_
                    refine AllReadyH.cons rfl (fun KK hKK => ?_) AllReadyH.nil
                    obtain ⟨vp', vc', w9, hrun, hRS, hc5, hz5, hrw⟩ := HAP.out w7 u _ H7.out
                    refine step_append_run rfl (.tmp 104) (.tmp 110) 34 rfl _ _ _ _ rfl rfl hrun ?_
                    have R9 := keepH hRS
                    have HRW := keepH hrw
                    clear hrun hRS hrw
                    refine hKK.out _ _ ?_ (fun hHeld => ?_)
                    · exact HSX.out _ HRW.out
                    clear hKK KK
                    (try simp only [Act.put]); (try simp only [List.setIfInBounds_toArray]); (try simp only [List.getElem_toArray]); (repeat (first | simp only [List.getElem_cons_succ] | simp only [List.getElem_cons_zero])); (repeat (first | simp only [List.set_cons_succ] | simp only [List.set_cons_zero]))
                    refine wpAnyH_take (i := 9) (v := ?_) rfl (by kernel_rfl) (by kernel_rfl) (by kernel_rfl) (fun _ _ _ h => h) (Or.inl ⟨by rfl, ?_⟩) hHeld ?_
                    rotate_left
                    · intro w hSw
                      (try dsimp only at hSw)
                      go_simp
                      try with_reducible rfl
                    (try simp only [Act.put]); (try simp only [List.setIfInBounds_toArray]); (try simp only [List.getElem_toArray]); (repeat (first | simp only [List.getElem_cons_succ] | simp only [List.getElem_cons_zero])); (repeat (first | simp only [List.set_cons_succ] | simp only [List.set_cons_zero]))
                    refine wpAnyH_ready (rs := [10]) (by kernel_rfl) (by simp) ?_
                    refine AllReadyH.cons rfl (fun KK hKK => ?_) AllReadyH.nil
                    go_simp
                    refine hKK.out _ _ ?_ (fun hHeld => ?_)
                    · exact HSX.out _ R9.out.row
                    clear hKK KK
                    (try simp only [Act.put]); (try simp only [List.setIfInBounds_toArray]); (try simp only [List.getElem_toArray]); (repeat (first | simp only [List.getElem_cons_succ] | simp only [List.getElem_cons_zero])); (repeat (first | simp only [List.set_cons_succ] | simp only [List.set_cons_zero]))
                    refine wpAnyH_done (by kernel_rfl) ?_ _
                    go_simp
                    clear hHeld
                    go_wp2_with fail
                    go_roundw
                    case rel => exact ⟨i + 1, by first | rfl | go_num, by omega, by omega, keepH ⟨us ++ [u], vp', vn + 1, vc', by omega, R9.out, by rw [show i + 1 - 3 = i - 3 + 1 by omega]; exact HV.out.2.1.more (f := f) (by rw [show 3 + (i - 3) = i by omega]; exact HF9.out) HU.out HNZ.out, by simp [HV.out.2.2]⟩⟩
                    case measure => simp [intOf]; omega
                  · go_simp
                    refine (HNU.out _ (HV.out.1.dn _)).mono ?_
                    rintro e w7 ⟨v, rfl, ⟨u, rfl, hu, hnz⟩, h7⟩
                    have H7 := keepH h7
                    have HU := keepH hu
                    have HNZ := keepH hnz
                    clear hu hnz h7
                    refine hKK.out _ _ ?_ (fun hHeld => ?_)
                    · exact HSX.out _ H7.out.row
                    clear hKK KK
                    (try simp only [Act.put]); (try simp only [List.setIfInBounds_toArray]); (try simp only [List.getElem_toArray]); (repeat (first | simp only [List.getElem_cons_succ] | simp only [List.getElem_cons_zero])); (repeat (first | simp only [List.set_cons_succ] | simp only [List.set_cons_zero]))
                    refine wpAnyH_ready (rs := [1, 7]) (by kernel_rfl) (by simp) ?_
                    refine AllReadyH.cons rfl (fun KK hKK => ?_) (AllReadyH.cons rfl (fun KK hKK => ?_) AllReadyH.nil)
                    · have y6 : w7.cell? ⟨AB, 5, none⟩ = some (.slice vp vn vc) := cell_of H7.out.box 5
                      go_simp
                      refine hKK.out _ _ ?_ (fun hHeld => ?_)
                      · exact HSX.out _ H7.out.row
                      clear hKK KK
                      (try simp only [Act.put]); (try simp only [List.setIfInBounds_toArray]); (try simp only [List.getElem_toArray]); (repeat (first | simp only [List.getElem_cons_succ] | simp only [List.getElem_cons_zero])); (repeat (first | simp only [List.set_cons_succ] | simp only [List.set_cons_zero]))
                      refine wpAnyH_ready (rs := [7]) (by kernel_rfl) (by simp) ?_
                      refine AllReadyH.cons rfl (fun KK hKK => ?_) AllReadyH.nil
                      go_simp
                      refine hKK.out _ _ ?_ (fun hHeld => ?_)
                      · exact HSX.out _ (H7.out.on (below_alloc _ _)).row
                      clear hKK KK
                      (try simp only [Act.put]); (try simp only [List.setIfInBounds_toArray]); (try simp only [List.getElem_toArray]); (repeat (first | simp only [List.getElem_cons_succ] | simp only [List.getElem_cons_zero])); (repeat (first | simp only [List.set_cons_succ] | simp only [List.set_cons_zero]))
                      refine wpAnyH_ready (rs := [8]) (by kernel_rfl) (by simp) ?_
                      refine AllReadyH.cons rfl (fun KK hKK => ?_) AllReadyH.nil
                      obtain ⟨vp', vc', w9, hrun, hRS, hc5, hz5, hrw⟩ := HAP.out w7 u _ H7.out
                      refine step_append_run rfl (.tmp 104) (.tmp 110) 34 rfl _ _ _ _ rfl rfl hrun ?_
                      have R9 := keepH hRS
                      have HRW := keepH hrw
                      clear hrun hRS hrw
                      refine hKK.out _ _ ?_ (fun hHeld => ?_)
                      · exact HSX.out _ HRW.out
                      clear hKK KK
                      (try simp only [Act.put]); (try simp only [List.setIfInBounds_toArray]); (try simp only [List.getElem_toArray]); (repeat (first | simp only [List.getElem_cons_succ] | simp only [List.getElem_cons_zero])); (repeat (first | simp only [List.set_cons_succ] | simp only [List.set_cons_zero]))
                      refine wpAnyH_take (i := 9) (v := ?_) rfl (by kernel_rfl) (by kernel_rfl) (by kernel_rfl) (fun _ _ _ h => h) (Or.inl ⟨by rfl, ?_⟩) hHeld ?_
                      rotate_left
                      · intro w hSw
                        (try dsimp only at hSw)
                        go_simp
                        try with_reducible rfl
                      (try simp only [Act.put]); (try simp only [List.setIfInBounds_toArray]); (try simp only [List.getElem_toArray]); (repeat (first | simp only [List.getElem_cons_succ] | simp only [List.getElem_cons_zero])); (repeat (first | simp only [List.set_cons_succ] | simp only [List.set_cons_zero]))
                      refine wpAnyH_ready (rs := [10]) (by kernel_rfl) (by simp) ?_
                      refine AllReadyH.cons rfl (fun KK hKK => ?_) AllReadyH.nil
                      go_simp
                      refine hKK.out _ _ ?_ (fun hHeld => ?_)
                      · exact HSX.out _ R9.out.row
                      clear hKK KK
                      (try simp only [Act.put]); (try simp only [List.setIfInBounds_toArray]); (try simp only [List.getElem_toArray]); (repeat (first | simp only [List.getElem_cons_succ] | simp only [List.getElem_cons_zero])); (repeat (first | simp only [List.set_cons_succ] | simp only [List.set_cons_zero]))
                      refine wpAnyH_done (by kernel_rfl) ?_ _
                      go_simp
                      clear hHeld
                      go_wp2_with fail
                      go_roundw
                      case rel => exact ⟨i + 1, by first | rfl | go_num, by omega, by omega, keepH ⟨us ++ [u], vp', vn + 1, vc', by omega, R9.out, by rw [show i + 1 - 3 = i - 3 + 1 by omega]; exact HV.out.2.1.more (f := f) (by rw [show 3 + (i - 3) = i by omega]; exact HF9.out) HU.out HNZ.out, by simp [HV.out.2.2]⟩⟩
                      case measure => simp [intOf]; omega
                    · go_simp
                      refine hKK.out _ _ ?_ (fun hHeld => ?_)
                      · exact HSX.out _ (H7.out.on (below_alloc _ _)).row
                      clear hKK KK
                      (try simp only [Act.put]); (try simp only [List.setIfInBounds_toArray]); (try simp only [List.getElem_toArray]); (repeat (first | simp only [List.getElem_cons_succ] | simp only [List.getElem_cons_zero])); (repeat (first | simp only [List.set_cons_succ] | simp only [List.set_cons_zero]))
                      refine wpAnyH_ready (rs := [1]) (by kernel_rfl) (by simp) ?_
                      refine AllReadyH.cons rfl (fun KK hKK => ?_) AllReadyH.nil
                      have y6 : (w7.alloc (.cells #[.int .u64 (u : Int)] 33)).cell? ⟨AB, 5, none⟩ = some (.slice vp vn vc) := cell_of (H7.out.on (below_alloc _ _)).box 5
                      go_simp
                      refine hKK.out _ _ ?_ (fun hHeld => ?_)
                      · exact HSX.out _ (H7.out.on (below_alloc _ _)).row
                      clear hKK KK
                      (try simp only [Act.put]); (try simp only [List.setIfInBounds_toArray]); (try simp only [List.getElem_toArray]); (repeat (first | simp only [List.getElem_cons_succ] | simp only [List.getElem_cons_zero])); (repeat (first | simp only [List.set_cons_succ] | simp only [List.set_cons_zero]))
                      refine wpAnyH_ready (rs := [8]) (by kernel_rfl) (by simp) ?_
                      refine AllReadyH.cons rfl (fun KK hKK => ?_) AllReadyH.nil
                      obtain ⟨vp', vc', w9, hrun, hRS, hc5, hz5, hrw⟩ := HAP.out w7 u _ H7.out
                      refine step_append_run rfl (.tmp 104) (.tmp 110) 34 rfl _ _ _ _ rfl rfl hrun ?_
                      have R9 := keepH hRS
                      have HRW := keepH hrw
                      clear hrun hRS hrw
                      refine hKK.out _ _ ?_ (fun hHeld => ?_)
                      · exact HSX.out _ HRW.out
                      clear hKK KK
                      (try simp only [Act.put]); (try simp only [List.setIfInBounds_toArray]); (try simp only [List.getElem_toArray]); (repeat (first | simp only [List.getElem_cons_succ] | simp only [List.getElem_cons_zero])); (repeat (first | simp only [List.set_cons_succ] | simp only [List.set_cons_zero]))
                      refine wpAnyH_take (i := 9) (v := ?_) rfl (by kernel_rfl) (by kernel_rfl) (by kernel_rfl) (fun _ _ _ h => h) (Or.inl ⟨by rfl, ?_⟩) hHeld ?_
                      rotate_left
                      · intro w hSw
                        (try dsimp only at hSw)
                        go_simp
                        try with_reducible rfl
                      (try simp only [Act.put]); (try simp only [List.setIfInBounds_toArray]); (try simp only [List.getElem_toArray]); (repeat (first | simp only [List.getElem_cons_succ] | simp only [List.getElem_cons_zero])); (repeat (first | simp only [List.set_cons_succ] | simp only [List.set_cons_zero]))
                      refine wpAnyH_ready (rs := [10]) (by kernel_rfl) (by simp) ?_
                      refine AllReadyH.cons rfl (fun KK hKK => ?_) AllReadyH.nil
                      go_simp
                      refine hKK.out _ _ ?_ (fun hHeld => ?_)
                      · exact HSX.out _ R9.out.row
                      clear hKK KK
                      (try simp only [Act.put]); (try simp only [List.setIfInBounds_toArray]); (try simp only [List.getElem_toArray]); (repeat (first | simp only [List.getElem_cons_succ] | simp only [List.getElem_cons_zero])); (repeat (first | simp only [List.set_cons_succ] | simp only [List.set_cons_zero]))
                      refine wpAnyH_done (by kernel_rfl) ?_ _
                      go_simp
                      clear hHeld
                      go_wp2_with fail
                      go_roundw
                      case rel => exact ⟨i + 1, by first | rfl | go_num, by omega, by omega, keepH ⟨us ++ [u], vp', vn + 1, vc', by omega, R9.out, by rw [show i + 1 - 3 = i - 3 + 1 by omega]; exact HV.out.2.1.more (f := f) (by rw [show 3 + (i - 3) = i by omega]; exact HF9.out) HU.out HNZ.out, by simp [HV.out.2.2]⟩⟩
                      case measure => simp [intOf]; omega
                · have q1 : ¬ (i : Int) < (N : Int) := by omega
                  have hvl : us.length ≤ 1048576 := by have := HV.out.2.1.1; omega
                  have hiN' : i - 3 = ws.length - 3 := by have := HNW.out; omega
                  have HM : Hid (RS W rb AB (.slice (some ⟨g, 0, none⟩) N cp) (ws ++ List.replicate 0 []) ⟨th, 5, ad, 0, 0, us, 0, false⟩ (.slice vp vn vc) wr ∧ FinP ws ⟨th, 5, ad, 0, 0, us, 0, false⟩ ∧ vn = us.length ∧ us.length ≤ 1048576) := keepH (by
                    have h1 := HV.out.1
                    have h2 := HPS.out
                    have h4 := HV.out.2.1
                    rw [hiN'] at h4
                    rw [HKD.out] at h1 h2
                    exact ⟨by simpa using h1, fin_5 h2 (by have := HN.out; omega) h4, HV.out.2.2, hvl⟩)
                  clear hvl hiN'
                  go_wp2_with fail
                  go_meet
                  exact ⟨⟨th, 5, ad, 0, 0, us, 0, false⟩, vp, vn, vc, HM⟩
          case rest =>
            obtain ⟨y, vp, vn, vc, HX⟩ := hcut
            obtain ⟨yth, yk, yad, ya, yb, us, ygot, yok⟩ := y
            have HR := keepH HX.out.1
            have HF := keepH HX.out.2.1
            have HVN := keepH HX.out.2.2.1
            have HVL := keepH HX.out.2.2.2
            clear HX HK hk5 hk6
            go_upto_region 28 with fail
            by_cases hr : RightA ⟨yth, yk, yad, ya, yb, us, ygot, yok⟩
            · have HBX : Hid (wc.heap[AB]? = some (.cells #[.int .i64 yth, .int .u8 (yk : Int), .int .u64 (yad : Int), .int .u64 (ya : Int), .int .u64 (yb : Int), .slice vp vn vc, .int .u64 (ygot : Int), .bool yok] 36 (0, 0))) := keepH HR.out.box
              have HRT : Hid (∀ m, Calls Tryz.prog 18 #[.agg #[.int .i64 yth, .int .u8 (yk : Int), .int .u64 (yad : Int), .int .u64 (ya : Int), .int .u64 (yb : Int), .slice vp vn vc, .int .u64 (ygot : Int), .bool yok]] (wc.drewN m) fun e w' => ∃ v, e = .returned v ∧ RightQ ⟨yth, yk, yad, ya, yb, us, ygot, yok⟩ v ∧ RS W rb AB (.slice (some ⟨g, 0, none⟩) N cp) (ws ++ List.replicate pd []) ⟨yth, yk, yad, ya, yb, us, ygot, yok⟩ (.slice vp vn vc) w') := keepH (fun m => RS.right (y := ⟨yth, yk, yad, ya, yb, us, ygot, yok⟩) (HR.out.dn m) HVN.out HVL.out)
              have HRY : Hid (RightA ⟨yth, yk, yad, ya, yb, us, ygot, yok⟩) := keepH hr
              have HLN : Hid (∀ w', RS W rb AB (.slice (some ⟨g, 0, none⟩) N cp) (ws ++ List.replicate pd []) ⟨yth, yk, yad, ya, yb, us, ygot, yok⟩ (.slice vp vn vc) w' → Calls Tryz.prog 19 #[.agg #[.int .i64 yth, .int .u8 (yk : Int), .int .u64 (yad : Int), .int .u64 (ya : Int), .int .u64 (yb : Int), .slice vp vn vc, .int .u64 (ygot : Int), .bool yok]] w' fun e w2 => e = .returned (.string (mkS (lineA ⟨yth, yk, yad, ya, yb, us, ygot, yok⟩))) ∧ RS W rb AB (.slice (some ⟨g, 0, none⟩) N cp) (ws ++ List.replicate pd []) ⟨yth, yk, yad, ya, yb, us, ygot, yok⟩ (.slice vp vn vc) w2) := keepH (fun w' h' => RS.line (y := ⟨yth, yk, yad, ya, yb, us, ygot, yok⟩) h' HT.out HVN.out HVL.out hr HF.out.1)
              have hq : ((mkS (lineA ⟨yth, yk, yad, ya, yb, us, ygot, yok⟩)).toList == s.toList) = decide (lineA ⟨yth, yk, yad, ya, yb, us, ygot, yok⟩ = t) := by rw [HS.out]; exact beq_mkS _ _
              obtain ⟨sl, hsl⟩ : ∃ sl, sl = mkS (lineA ⟨yth, yk, yad, ya, yb, us, ygot, yok⟩) := ⟨_, rfl⟩
              rw [← hsl] at HLN hq
              clear hr hsl
              by_cases hlt : lineA ⟨yth, yk, yad, ya, yb, us, ygot, yok⟩ = t
              · rw [decide_eq_true hlt] at hq
                have HLT := keepH hlt
                clear hlt
                refine wp_region_held_drew (S := fun w' => w'.heap[AB]? = some (.cells #[.int .i64 yth, .int .u8 (yk : Int), .int .u64 (yad : Int), .int .u64 (ya : Int), .int .u64 (yb : Int), .slice vp vn vc, .int .u64 (ygot : Int), .bool yok] 36 (0, 0))) (by kernel_rfl) (HBX.out) ?_
                intro hHeld
                refine wpAnyH_take (i := 0) (v := ?_) rfl (by kernel_rfl) (by kernel_rfl) (by kernel_rfl) (fun _ _ _ h => h) (Or.inl ⟨by rfl, ?_⟩) hHeld ?_
                rotate_left
                · intro w hSw
                  (try dsimp only at hSw)
                  have y0 : w.cell? ⟨AB, 0, none⟩ = some (.int .i64 yth) := cell_of hSw 0
                  have y1 : w.cell? ⟨AB, 1, none⟩ = some (.int .u8 (yk : Int)) := cell_of hSw 1
                  have y2 : w.cell? ⟨AB, 2, none⟩ = some (.int .u64 (yad : Int)) := cell_of hSw 2
                  have y3 : w.cell? ⟨AB, 3, none⟩ = some (.int .u64 (ya : Int)) := cell_of hSw 3
                  have y4 : w.cell? ⟨AB, 4, none⟩ = some (.int .u64 (yb : Int)) := cell_of hSw 4
                  have y5 : w.cell? ⟨AB, 5, none⟩ = some (.slice vp vn vc) := cell_of hSw 5
                  have y6 : w.cell? ⟨AB, 6, none⟩ = some (.int .u64 (ygot : Int)) := cell_of hSw 6
                  have y7 : w.cell? ⟨AB, 7, none⟩ = some (.bool yok) := cell_of hSw 7
                  go_simp
                  try with_reducible rfl
                (try simp only [Act.put]); (try simp only [List.setIfInBounds_toArray]); (try simp only [List.getElem_toArray]); (repeat (first | simp only [List.getElem_cons_succ] | simp only [List.getElem_cons_zero])); (repeat (first | simp only [List.set_cons_succ] | simp only [List.set_cons_zero]))
                refine wpAnyH_take (i := 1) (v := ?_) rfl (by kernel_rfl) (by kernel_rfl) (by kernel_rfl) (fun _ _ _ h => h) (Or.inl ⟨by rfl, ?_⟩) hHeld ?_
                rotate_left
                · intro w hSw
                  (try dsimp only at hSw)
                  have y0 : w.cell? ⟨AB, 0, none⟩ = some (.int .i64 yth) := cell_of hSw 0
                  have y1 : w.cell? ⟨AB, 1, none⟩ = some (.int .u8 (yk : Int)) := cell_of hSw 1
                  have y2 : w.cell? ⟨AB, 2, none⟩ = some (.int .u64 (yad : Int)) := cell_of hSw 2
                  have y3 : w.cell? ⟨AB, 3, none⟩ = some (.int .u64 (ya : Int)) := cell_of hSw 3
                  have y4 : w.cell? ⟨AB, 4, none⟩ = some (.int .u64 (yb : Int)) := cell_of hSw 4
                  have y5 : w.cell? ⟨AB, 5, none⟩ = some (.slice vp vn vc) := cell_of hSw 5
                  have y6 : w.cell? ⟨AB, 6, none⟩ = some (.int .u64 (ygot : Int)) := cell_of hSw 6
                  have y7 : w.cell? ⟨AB, 7, none⟩ = some (.bool yok) := cell_of hSw 7
                  go_simp
                  try with_reducible rfl
                (try simp only [Act.put]); (try simp only [List.setIfInBounds_toArray]); (try simp only [List.getElem_toArray]); (repeat (first | simp only [List.getElem_cons_succ] | simp only [List.getElem_cons_zero])); (repeat (first | simp only [List.set_cons_succ] | simp only [List.set_cons_zero]))
                refine wpAnyH_ready (rs := [2]) (by kernel_rfl) (by simp) ?_
                refine AllReadyH.cons rfl (fun KK hKK => ?_) AllReadyH.nil
                go_simp
                refine (HRT.out _).mono ?_
                rintro e w7 ⟨v, rfl, hv, h7⟩
                obtain ⟨rr, rfl, hrr⟩ := hv
                obtain rfl : rr = true := hrr.mpr HRY.out
                have H7 := keepH h7
                clear h7 hrr
                refine hKK.out _ _ ?_ (fun hHeld => ?_)
                · exact H7.out.box
                clear hKK KK
                (try simp only [Act.put]); (try simp only [List.setIfInBounds_toArray]); (try simp only [List.getElem_toArray]); (repeat (first | simp only [List.getElem_cons_succ] | simp only [List.getElem_cons_zero])); (repeat (first | simp only [List.set_cons_succ] | simp only [List.set_cons_zero]))
                refine wpAnyH_take (i := 3) (v := ?_) rfl (by kernel_rfl) (by kernel_rfl) (by kernel_rfl) (fun _ _ _ h => h) (Or.inl ⟨by rfl, ?_⟩) hHeld ?_
                rotate_left
                · intro w hSw
                  (try dsimp only at hSw)
                  go_simp
                  try with_reducible rfl
                (try simp only [Act.put]); (try simp only [List.setIfInBounds_toArray]); (try simp only [List.getElem_toArray]); (repeat (first | simp only [List.getElem_cons_succ] | simp only [List.getElem_cons_zero])); (repeat (first | simp only [List.set_cons_succ] | simp only [List.set_cons_zero]))
                refine wpAnyH_take (i := 4) (v := ?_) rfl (by kernel_rfl) (by kernel_rfl) (by kernel_rfl) (fun _ _ _ h => h) (Or.inl ⟨by rfl, ?_⟩) hHeld ?_
                rotate_left
                · intro w hSw
                  (try dsimp only at hSw)
                  have y0 : w.cell? ⟨AB, 0, none⟩ = some (.int .i64 yth) := cell_of hSw 0
                  have y1 : w.cell? ⟨AB, 1, none⟩ = some (.int .u8 (yk : Int)) := cell_of hSw 1
                  have y2 : w.cell? ⟨AB, 2, none⟩ = some (.int .u64 (yad : Int)) := cell_of hSw 2
                  have y3 : w.cell? ⟨AB, 3, none⟩ = some (.int .u64 (ya : Int)) := cell_of hSw 3
                  have y4 : w.cell? ⟨AB, 4, none⟩ = some (.int .u64 (yb : Int)) := cell_of hSw 4
                  have y5 : w.cell? ⟨AB, 5, none⟩ = some (.slice vp vn vc) := cell_of hSw 5
                  have y6 : w.cell? ⟨AB, 6, none⟩ = some (.int .u64 (ygot : Int)) := cell_of hSw 6
                  have y7 : w.cell? ⟨AB, 7, none⟩ = some (.bool yok) := cell_of hSw 7
                  go_simp
                  try with_reducible rfl
                (try simp only [Act.put]); (try simp only [List.setIfInBounds_toArray]); (try simp only [List.getElem_toArray]); (repeat (first | simp only [List.getElem_cons_succ] | simp only [List.getElem_cons_zero])); (repeat (first | simp only [List.set_cons_succ] | simp only [List.set_cons_zero]))
                refine wpAnyH_take (i := 6) (v := ?_) rfl (by kernel_rfl) (by kernel_rfl) (by kernel_rfl) (fun _ _ _ h => h) (Or.inl ⟨by rfl, ?_⟩) hHeld ?_
                rotate_left
                · intro w hSw
                  (try dsimp only at hSw)
                  go_simp
                  try with_reducible rfl
                (try simp only [Act.put]); (try simp only [List.setIfInBounds_toArray]); (try simp only [List.getElem_toArray]); (repeat (first | simp only [List.getElem_cons_succ] | simp only [List.getElem_cons_zero])); (repeat (first | simp only [List.set_cons_succ] | simp only [List.set_cons_zero]))
                refine wpAnyH_ready (rs := [5]) (by kernel_rfl) (by simp) ?_
                refine AllReadyH.cons rfl (fun KK hKK => ?_) AllReadyH.nil
                go_simp
                refine (HLN.out _ H7.out).mono ?_
                rintro e w8 ⟨rfl, h8⟩
                have H8 := keepH h8
                clear h8
                refine hKK.out _ _ ?_ (fun hHeld => ?_)
                · exact H8.out.box
                clear hKK KK
                (try simp only [Act.put]); (try simp only [List.setIfInBounds_toArray]); (try simp only [List.getElem_toArray]); (repeat (first | simp only [List.getElem_cons_succ] | simp only [List.getElem_cons_zero])); (repeat (first | simp only [List.set_cons_succ] | simp only [List.set_cons_zero]))
                refine wpAnyH_take (i := 7) (v := ?_) rfl (by kernel_rfl) (by kernel_rfl) (by kernel_rfl) (fun _ _ _ h => h) (Or.inl ⟨by rfl, ?_⟩) hHeld ?_
                rotate_left
                · intro w hSw
                  (try dsimp only at hSw)
                  go_simp
                  try with_reducible rfl
                (try simp only [Act.put]); (try simp only [List.setIfInBounds_toArray]); (try simp only [List.getElem_toArray]); (repeat (first | simp only [List.getElem_cons_succ] | simp only [List.getElem_cons_zero])); (repeat (first | simp only [List.set_cons_succ] | simp only [List.set_cons_zero]))
                refine wpAnyH_take (i := 8) (v := ?_) rfl (by kernel_rfl) (by kernel_rfl) (by kernel_rfl) (fun _ _ _ h => h) (Or.inl ⟨by rfl, ?_⟩) hHeld ?_
                rotate_left
                · intro w hSw
                  (try dsimp only at hSw)
                  go_simp
                  try with_reducible rfl
                (try simp only [Act.put]); (try simp only [List.setIfInBounds_toArray]); (try simp only [List.getElem_toArray]); (repeat (first | simp only [List.getElem_cons_succ] | simp only [List.getElem_cons_zero])); (repeat (first | simp only [List.set_cons_succ] | simp only [List.set_cons_zero]))
                refine wpAnyH_ready (rs := [9]) (by kernel_rfl) (by simp) ?_
                refine AllReadyH.cons rfl (fun KK hKK => ?_) AllReadyH.nil
                refine step_store_row rfl 36 (.tmp 2) (.tmp 113) rfl rb #[.int .i64 yth, .int .u8 (yk : Int), .int .u64 (yad : Int), .int .u64 (ya : Int), .int .u64 (yb : Int), .slice vp vn vc, .int .u64 (ygot : Int), .bool yok] rfl rfl 36 (bxA ax0 (.slice none 0 0)) H8.out.res (by kernel_rfl) rfl (by simp [Value.oneCell']) ?_
                refine hKK.out _ _ ?_ (fun hHeld => ?_)
                · exact (setRow_other _ _ _ _ (Ne.symm H8.out.l3)).trans H8.out.box
                clear hKK KK
                (try simp only [Act.put]); (try simp only [List.setIfInBounds_toArray]); (try simp only [List.getElem_toArray]); (repeat (first | simp only [List.getElem_cons_succ] | simp only [List.getElem_cons_zero])); (repeat (first | simp only [List.set_cons_succ] | simp only [List.set_cons_zero]))
                refine wpAnyH_take (i := 10) (v := ?_) rfl (by kernel_rfl) (by kernel_rfl) (by kernel_rfl) (fun _ _ _ h => h) (Or.inl ⟨by rfl, ?_⟩) hHeld ?_
                rotate_left
                · intro w hSw
                  (try dsimp only at hSw)
                  go_simp
                  try with_reducible rfl
                (try simp only [Act.put]); (try simp only [List.setIfInBounds_toArray]); (try simp only [List.getElem_toArray]); (repeat (first | simp only [List.getElem_cons_succ] | simp only [List.getElem_cons_zero])); (repeat (first | simp only [List.set_cons_succ] | simp only [List.set_cons_zero]))
                refine wpAnyH_done (by kernel_rfl) ?_ _
                go_simp
                clear hHeld
                go_wp2_with fail
                obtain ⟨e1, e2, e3⟩ := H8.out.setRow #[.int .i64 yth, .int .u8 (yk : Int), .int .u64 (yad : Int), .int .u64 (ya : Int), .int .u64 (yb : Int), .slice vp vn vc, .int .u64 (ygot : Int), .bool yok]
                obtain ⟨g0, g1, g2, g3, g4, g5, g6, g7⟩ : _ ∧ _ ∧ _ ∧ _ ∧ _ ∧ _ ∧ _ ∧ _ := acc_cells (x := ⟨yth, yk, yad, ya, yb, us, ygot, yok⟩) (vs := .slice vp vn vc) e3
                simp only at g0 g1 g2 g3 g4 g5 g6 g7
                refine bodyPost_ret (v := .tuple #[.agg #[.int .i64 yth, .int .u8 (yk : Int), .int .u64 (yad : Int), .int .u64 (ya : Int), .int .u64 (yb : Int), .slice vp vn vc, .int .u64 (ygot : Int), .bool yok], .bool true]) (by simp [results, Tryz.results23, go_sem, g0, g1, g2, g3, g4, g5, g6, g7]) rfl ⟨_, rfl, _, _, rfl, ?_⟩
                exact end_yes (y := ⟨yth, yk, yad, ya, yb, us, ygot, yok⟩) (vs := .slice vp vn vc) HRY.out HF.out.1 HLT.out e1 e2 HR.out.vnew
              · rw [decide_eq_false hlt] at hq
                have HLT := keepH hlt
                clear hlt
                refine wp_region_held_drew (S := fun w' => w'.heap[AB]? = some (.cells #[.int .i64 yth, .int .u8 (yk : Int), .int .u64 (yad : Int), .int .u64 (ya : Int), .int .u64 (yb : Int), .slice vp vn vc, .int .u64 (ygot : Int), .bool yok] 36 (0, 0))) (by kernel_rfl) (HBX.out) ?_
                intro hHeld
                refine wpAnyH_take (i := 0) (v := ?_) rfl (by kernel_rfl) (by kernel_rfl) (by kernel_rfl) (fun _ _ _ h => h) (Or.inl ⟨by rfl, ?_⟩) hHeld ?_
                rotate_left
                · intro w hSw
                  (try dsimp only at hSw)
                  have y0 : w.cell? ⟨AB, 0, none⟩ = some (.int .i64 yth) := cell_of hSw 0
                  have y1 : w.cell? ⟨AB, 1, none⟩ = some (.int .u8 (yk : Int)) := cell_of hSw 1
                  have y2 : w.cell? ⟨AB, 2, none⟩ = some (.int .u64 (yad : Int)) := cell_of hSw 2
                  have y3 : w.cell? ⟨AB, 3, none⟩ = some (.int .u64 (ya : Int)) := cell_of hSw 3
                  have y4 : w.cell? ⟨AB, 4, none⟩ = some (.int .u64 (yb : Int)) := cell_of hSw 4
                  have y5 : w.cell? ⟨AB, 5, none⟩ = some (.slice vp vn vc) := cell_of hSw 5
                  have y6 : w.cell? ⟨AB, 6, none⟩ = some (.int .u64 (ygot : Int)) := cell_of hSw 6
                  have y7 : w.cell? ⟨AB, 7, none⟩ = some (.bool yok) := cell_of hSw 7
                  go_simp
                  try with_reducible rfl
                (try simp only [Act.put]); (try simp only [List.setIfInBounds_toArray]); (try simp only [List.getElem_toArray]); (repeat (first | simp only [List.getElem_cons_succ] | simp only [List.getElem_cons_zero])); (repeat (first | simp only [List.set_cons_succ] | simp only [List.set_cons_zero]))
                refine wpAnyH_take (i := 1) (v := ?_) rfl (by kernel_rfl) (by kernel_rfl) (by kernel_rfl) (fun _ _ _ h => h) (Or.inl ⟨by rfl, ?_⟩) hHeld ?_
                rotate_left
                · intro w hSw
                  (try dsimp only at hSw)
                  have y0 : w.cell? ⟨AB, 0, none⟩ = some (.int .i64 yth) := cell_of hSw 0
                  have y1 : w.cell? ⟨AB, 1, none⟩ = some (.int .u8 (yk : Int)) := cell_of hSw 1
                  have y2 : w.cell? ⟨AB, 2, none⟩ = some (.int .u64 (yad : Int)) := cell_of hSw 2
                  have y3 : w.cell? ⟨AB, 3, none⟩ = some (.int .u64 (ya : Int)) := cell_of hSw 3
                  have y4 : w.cell? ⟨AB, 4, none⟩ = some (.int .u64 (yb : Int)) := cell_of hSw 4
                  have y5 : w.cell? ⟨AB, 5, none⟩ = some (.slice vp vn vc) := cell_of hSw 5
                  have y6 : w.cell? ⟨AB, 6, none⟩ = some (.int .u64 (ygot : Int)) := cell_of hSw 6
                  have y7 : w.cell? ⟨AB, 7, none⟩ = some (.bool yok) := cell_of hSw 7
                  go_simp
                  try with_reducible rfl
                (try simp only [Act.put]); (try simp only [List.setIfInBounds_toArray]); (try simp only [List.getElem_toArray]); (repeat (first | simp only [List.getElem_cons_succ] | simp only [List.getElem_cons_zero])); (repeat (first | simp only [List.set_cons_succ] | simp only [List.set_cons_zero]))
                refine wpAnyH_ready (rs := [2]) (by kernel_rfl) (by simp) ?_
                refine AllReadyH.cons rfl (fun KK hKK => ?_) AllReadyH.nil
                go_simp
                refine (HRT.out _).mono ?_
                rintro e w7 ⟨v, rfl, hv, h7⟩
                obtain ⟨rr, rfl, hrr⟩ := hv
                obtain rfl : rr = true := hrr.mpr HRY.out
                have H7 := keepH h7
                clear h7 hrr
                refine hKK.out _ _ ?_ (fun hHeld => ?_)
                · exact H7.out.box
                clear hKK KK
                (try simp only [Act.put]); (try simp only [List.setIfInBounds_toArray]); (try simp only [List.getElem_toArray]); (repeat (first | simp only [List.getElem_cons_succ] | simp only [List.getElem_cons_zero])); (repeat (first | simp only [List.set_cons_succ] | simp only [List.set_cons_zero]))
                refine wpAnyH_take (i := 3) (v := ?_) rfl (by kernel_rfl) (by kernel_rfl) (by kernel_rfl) (fun _ _ _ h => h) (Or.inl ⟨by rfl, ?_⟩) hHeld ?_
                rotate_left
                · intro w hSw
                  (try dsimp only at hSw)
                  go_simp
                  try with_reducible rfl
                (try simp only [Act.put]); (try simp only [List.setIfInBounds_toArray]); (try simp only [List.getElem_toArray]); (repeat (first | simp only [List.getElem_cons_succ] | simp only [List.getElem_cons_zero])); (repeat (first | simp only [List.set_cons_succ] | simp only [List.set_cons_zero]))
                refine wpAnyH_take (i := 4) (v := ?_) rfl (by kernel_rfl) (by kernel_rfl) (by kernel_rfl) (fun _ _ _ h => h) (Or.inl ⟨by rfl, ?_⟩) hHeld ?_
                rotate_left
                · intro w hSw
                  (try dsimp only at hSw)
                  have y0 : w.cell? ⟨AB, 0, none⟩ = some (.int .i64 yth) := cell_of hSw 0
                  have y1 : w.cell? ⟨AB, 1, none⟩ = some (.int .u8 (yk : Int)) := cell_of hSw 1
                  have y2 : w.cell? ⟨AB, 2, none⟩ = some (.int .u64 (yad : Int)) := cell_of hSw 2
                  have y3 : w.cell? ⟨AB, 3, none⟩ = some (.int .u64 (ya : Int)) := cell_of hSw 3
                  have y4 : w.cell? ⟨AB, 4, none⟩ = some (.int .u64 (yb : Int)) := cell_of hSw 4
                  have y5 : w.cell? ⟨AB, 5, none⟩ = some (.slice vp vn vc) := cell_of hSw 5
                  have y6 : w.cell? ⟨AB, 6, none⟩ = some (.int .u64 (ygot : Int)) := cell_of hSw 6
                  have y7 : w.cell? ⟨AB, 7, none⟩ = some (.bool yok) := cell_of hSw 7
                  go_simp
                  try with_reducible rfl
                (try simp only [Act.put]); (try simp only [List.setIfInBounds_toArray]); (try simp only [List.getElem_toArray]); (repeat (first | simp only [List.getElem_cons_succ] | simp only [List.getElem_cons_zero])); (repeat (first | simp only [List.set_cons_succ] | simp only [List.set_cons_zero]))
                refine wpAnyH_take (i := 6) (v := ?_) rfl (by kernel_rfl) (by kernel_rfl) (by kernel_rfl) (fun _ _ _ h => h) (Or.inl ⟨by rfl, ?_⟩) hHeld ?_
                rotate_left
                · intro w hSw
                  (try dsimp only at hSw)
                  go_simp
                  try with_reducible rfl
                (try simp only [Act.put]); (try simp only [List.setIfInBounds_toArray]); (try simp only [List.getElem_toArray]); (repeat (first | simp only [List.getElem_cons_succ] | simp only [List.getElem_cons_zero])); (repeat (first | simp only [List.set_cons_succ] | simp only [List.set_cons_zero]))
                refine wpAnyH_ready (rs := [5]) (by kernel_rfl) (by simp) ?_
                refine AllReadyH.cons rfl (fun KK hKK => ?_) AllReadyH.nil
                go_simp
                refine (HLN.out _ H7.out).mono ?_
                rintro e w8 ⟨rfl, h8⟩
                have H8 := keepH h8
                clear h8
                refine hKK.out _ _ ?_ (fun hHeld => ?_)
                · exact H8.out.box
                clear hKK KK
                (try simp only [Act.put]); (try simp only [List.setIfInBounds_toArray]); (try simp only [List.getElem_toArray]); (repeat (first | simp only [List.getElem_cons_succ] | simp only [List.getElem_cons_zero])); (repeat (first | simp only [List.set_cons_succ] | simp only [List.set_cons_zero]))
                refine wpAnyH_take (i := 7) (v := ?_) rfl (by kernel_rfl) (by kernel_rfl) (by kernel_rfl) (fun _ _ _ h => h) (Or.inl ⟨by rfl, ?_⟩) hHeld ?_
                rotate_left
                · intro w hSw
                  (try dsimp only at hSw)
                  go_simp
                  try with_reducible rfl
                (try simp only [Act.put]); (try simp only [List.setIfInBounds_toArray]); (try simp only [List.getElem_toArray]); (repeat (first | simp only [List.getElem_cons_succ] | simp only [List.getElem_cons_zero])); (repeat (first | simp only [List.set_cons_succ] | simp only [List.set_cons_zero]))
                refine wpAnyH_take (i := 8) (v := ?_) rfl (by kernel_rfl) (by kernel_rfl) (by kernel_rfl) (fun _ _ _ h => h) (Or.inl ⟨by rfl, ?_⟩) hHeld ?_
                rotate_left
                · intro w hSw
                  (try dsimp only at hSw)
                  go_simp
                  try with_reducible rfl
                (try simp only [Act.put]); (try simp only [List.setIfInBounds_toArray]); (try simp only [List.getElem_toArray]); (repeat (first | simp only [List.getElem_cons_succ] | simp only [List.getElem_cons_zero])); (repeat (first | simp only [List.set_cons_succ] | simp only [List.set_cons_zero]))
                refine wpAnyH_ready (rs := [9]) (by kernel_rfl) (by simp) ?_
                refine AllReadyH.cons rfl (fun KK hKK => ?_) AllReadyH.nil
                refine step_store_row rfl 36 (.tmp 2) (.tmp 113) rfl rb #[.int .i64 yth, .int .u8 (yk : Int), .int .u64 (yad : Int), .int .u64 (ya : Int), .int .u64 (yb : Int), .slice vp vn vc, .int .u64 (ygot : Int), .bool yok] rfl rfl 36 (bxA ax0 (.slice none 0 0)) H8.out.res (by kernel_rfl) rfl (by simp [Value.oneCell']) ?_
                refine hKK.out _ _ ?_ (fun hHeld => ?_)
                · exact (setRow_other _ _ _ _ (Ne.symm H8.out.l3)).trans H8.out.box
                clear hKK KK
                (try simp only [Act.put]); (try simp only [List.setIfInBounds_toArray]); (try simp only [List.getElem_toArray]); (repeat (first | simp only [List.getElem_cons_succ] | simp only [List.getElem_cons_zero])); (repeat (first | simp only [List.set_cons_succ] | simp only [List.set_cons_zero]))
                refine wpAnyH_take (i := 10) (v := ?_) rfl (by kernel_rfl) (by kernel_rfl) (by kernel_rfl) (fun _ _ _ h => h) (Or.inl ⟨by rfl, ?_⟩) hHeld ?_
                rotate_left
                · intro w hSw
                  (try dsimp only at hSw)
                  go_simp
                  try with_reducible rfl
                (try simp only [Act.put]); (try simp only [List.setIfInBounds_toArray]); (try simp only [List.getElem_toArray]); (repeat (first | simp only [List.getElem_cons_succ] | simp only [List.getElem_cons_zero])); (repeat (first | simp only [List.set_cons_succ] | simp only [List.set_cons_zero]))
                refine wpAnyH_done (by kernel_rfl) ?_ _
                go_simp
                clear hHeld
                go_wp2_with fail
                obtain ⟨e1, e2, e3⟩ := H8.out.setRow #[.int .i64 yth, .int .u8 (yk : Int), .int .u64 (yad : Int), .int .u64 (ya : Int), .int .u64 (yb : Int), .slice vp vn vc, .int .u64 (ygot : Int), .bool yok]
                obtain ⟨g0, g1, g2, g3, g4, g5, g6, g7⟩ : _ ∧ _ ∧ _ ∧ _ ∧ _ ∧ _ ∧ _ ∧ _ := acc_cells (x := ⟨yth, yk, yad, ya, yb, us, ygot, yok⟩) (vs := .slice vp vn vc) e3
                simp only at g0 g1 g2 g3 g4 g5 g6 g7
                refine bodyPost_ret (v := .tuple #[.agg #[.int .i64 yth, .int .u8 (yk : Int), .int .u64 (yad : Int), .int .u64 (ya : Int), .int .u64 (yb : Int), .slice vp vn vc, .int .u64 (ygot : Int), .bool yok], .bool false]) (by simp [results, Tryz.results23, go_sem, g0, g1, g2, g3, g4, g5, g6, g7]) rfl ⟨_, rfl, _, _, rfl, ?_⟩
                exact end_no (y := ⟨yth, yk, yad, ya, yb, us, ygot, yok⟩) (vs := .slice vp vn vc) (by rw [HWS.out]; exact HF.out) (fun h => HLT.out h.2) e1 e2
            · have HBX : Hid (wc.heap[AB]? = some (.cells #[.int .i64 yth, .int .u8 (yk : Int), .int .u64 (yad : Int), .int .u64 (ya : Int), .int .u64 (yb : Int), .slice vp vn vc, .int .u64 (ygot : Int), .bool yok] 36 (0, 0))) := keepH HR.out.box
              have HRT : Hid (∀ m, Calls Tryz.prog 18 #[.agg #[.int .i64 yth, .int .u8 (yk : Int), .int .u64 (yad : Int), .int .u64 (ya : Int), .int .u64 (yb : Int), .slice vp vn vc, .int .u64 (ygot : Int), .bool yok]] (wc.drewN m) fun e w' => ∃ v, e = .returned v ∧ RightQ ⟨yth, yk, yad, ya, yb, us, ygot, yok⟩ v ∧ RS W rb AB (.slice (some ⟨g, 0, none⟩) N cp) (ws ++ List.replicate pd []) ⟨yth, yk, yad, ya, yb, us, ygot, yok⟩ (.slice vp vn vc) w') := keepH (fun m => RS.right (y := ⟨yth, yk, yad, ya, yb, us, ygot, yok⟩) (HR.out.dn m) HVN.out HVL.out)
              have HNR : Hid (¬ RightA ⟨yth, yk, yad, ya, yb, us, ygot, yok⟩) := keepH hr
              clear hr
              refine wp_region_held_drew (S := fun w' => w'.heap[AB]? = some (.cells #[.int .i64 yth, .int .u8 (yk : Int), .int .u64 (yad : Int), .int .u64 (ya : Int), .int .u64 (yb : Int), .slice vp vn vc, .int .u64 (ygot : Int), .bool yok] 36 (0, 0))) (by kernel_rfl) (HBX.out) ?_
              intro hHeld
              refine wpAnyH_take (i := 0) (v := ?_) rfl (by kernel_rfl) (by kernel_rfl) (by kernel_rfl) (fun _ _ _ h => h) (Or.inl ⟨by rfl, ?_⟩) hHeld ?_
              rotate_left
              · intro w hSw
                (try dsimp only at hSw)
                have y0 : w.cell? ⟨AB, 0, none⟩ = some (.int .i64 yth) := cell_of hSw 0
                have y1 : w.cell? ⟨AB, 1, none⟩ = some (.int .u8 (yk : Int)) := cell_of hSw 1
                have y2 : w.cell? ⟨AB, 2, none⟩ = some (.int .u64 (yad : Int)) := cell_of hSw 2
                have y3 : w.cell? ⟨AB, 3, none⟩ = some (.int .u64 (ya : Int)) := cell_of hSw 3
                have y4 : w.cell? ⟨AB, 4, none⟩ = some (.int .u64 (yb : Int)) := cell_of hSw 4
                have y5 : w.cell? ⟨AB, 5, none⟩ = some (.slice vp vn vc) := cell_of hSw 5
                have y6 : w.cell? ⟨AB, 6, none⟩ = some (.int .u64 (ygot : Int)) := cell_of hSw 6
                have y7 : w.cell? ⟨AB, 7, none⟩ = some (.bool yok) := cell_of hSw 7
                go_simp
                try with_reducible rfl
              (try simp only [Act.put]); (try simp only [List.setIfInBounds_toArray]); (try simp only [List.getElem_toArray]); (repeat (first | simp only [List.getElem_cons_succ] | simp only [List.getElem_cons_zero])); (repeat (first | simp only [List.set_cons_succ] | simp only [List.set_cons_zero]))
              refine wpAnyH_take (i := 1) (v := ?_) rfl (by kernel_rfl) (by kernel_rfl) (by kernel_rfl) (fun _ _ _ h => h) (Or.inl ⟨by rfl, ?_⟩) hHeld ?_
              rotate_left
              · intro w hSw
                (try dsimp only at hSw)
                have y0 : w.cell? ⟨AB, 0, none⟩ = some (.int .i64 yth) := cell_of hSw 0
                have y1 : w.cell? ⟨AB, 1, none⟩ = some (.int .u8 (yk : Int)) := cell_of hSw 1
                have y2 : w.cell? ⟨AB, 2, none⟩ = some (.int .u64 (yad : Int)) := cell_of hSw 2
                have y3 : w.cell? ⟨AB, 3, none⟩ = some (.int .u64 (ya : Int)) := cell_of hSw 3
                have y4 : w.cell? ⟨AB, 4, none⟩ = some (.int .u64 (yb : Int)) := cell_of hSw 4
                have y5 : w.cell? ⟨AB, 5, none⟩ = some (.slice vp vn vc) := cell_of hSw 5
                have y6 : w.cell? ⟨AB, 6, none⟩ = some (.int .u64 (ygot : Int)) := cell_of hSw 6
                have y7 : w.cell? ⟨AB, 7, none⟩ = some (.bool yok) := cell_of hSw 7
                go_simp
                try with_reducible rfl
              (try simp only [Act.put]); (try simp only [List.setIfInBounds_toArray]); (try simp only [List.getElem_toArray]); (repeat (first | simp only [List.getElem_cons_succ] | simp only [List.getElem_cons_zero])); (repeat (first | simp only [List.set_cons_succ] | simp only [List.set_cons_zero]))
              refine wpAnyH_ready (rs := [2]) (by kernel_rfl) (by simp) ?_
              refine AllReadyH.cons rfl (fun KK hKK => ?_) AllReadyH.nil
              go_simp
              refine (HRT.out _).mono ?_
              rintro e w7 ⟨v, rfl, hv, h7⟩
              obtain ⟨rr, rfl, hrr⟩ := hv
              obtain rfl : rr = false := by
                  cases rr
                  · rfl
                  · exact absurd (hrr.mp rfl) HNR.out
              have H7 := keepH h7
              clear h7 hrr
              refine hKK.out _ _ ?_ (fun hHeld => ?_)
              · exact H7.out.box
              clear hKK KK
              (try simp only [Act.put]); (try simp only [List.setIfInBounds_toArray]); (try simp only [List.getElem_toArray]); (repeat (first | simp only [List.getElem_cons_succ] | simp only [List.getElem_cons_zero])); (repeat (first | simp only [List.set_cons_succ] | simp only [List.set_cons_zero]))
              refine wpAnyH_take (i := 3) (v := ?_) rfl (by kernel_rfl) (by kernel_rfl) (by kernel_rfl) (fun _ _ _ h => h) (Or.inl ⟨by rfl, ?_⟩) hHeld ?_
              rotate_left
              · intro w hSw
                (try dsimp only at hSw)
                go_simp
                try with_reducible rfl
              (try simp only [Act.put]); (try simp only [List.setIfInBounds_toArray]); (try simp only [List.getElem_toArray]); (repeat (first | simp only [List.getElem_cons_succ] | simp only [List.getElem_cons_zero])); (repeat (first | simp only [List.set_cons_succ] | simp only [List.set_cons_zero]))
              refine wpAnyH_take (i := 4) (v := undef) rfl (by kernel_rfl) (by kernel_rfl) (by kernel_rfl) (fun _ _ _ h => h) (Or.inr ⟨by kernel_rfl, rfl⟩) hHeld ?_
              (try simp only [Act.put]); (try simp only [List.setIfInBounds_toArray]); (try simp only [List.getElem_toArray]); (repeat (first | simp only [List.getElem_cons_succ] | simp only [List.getElem_cons_zero])); (repeat (first | simp only [List.set_cons_succ] | simp only [List.set_cons_zero]))
              refine wpAnyH_take (i := 5) (v := undef) rfl (by kernel_rfl) (by kernel_rfl) (by kernel_rfl) (fun _ _ _ h => h) (Or.inr ⟨by kernel_rfl, rfl⟩) hHeld ?_
              (try simp only [Act.put]); (try simp only [List.setIfInBounds_toArray]); (try simp only [List.getElem_toArray]); (repeat (first | simp only [List.getElem_cons_succ] | simp only [List.getElem_cons_zero])); (repeat (first | simp only [List.set_cons_succ] | simp only [List.set_cons_zero]))
              refine wpAnyH_take (i := 6) (v := undef) rfl (by kernel_rfl) (by kernel_rfl) (by kernel_rfl) (fun _ _ _ h => h) (Or.inr ⟨by kernel_rfl, rfl⟩) hHeld ?_
              (try simp only [Act.put]); (try simp only [List.setIfInBounds_toArray]); (try simp only [List.getElem_toArray]); (repeat (first | simp only [List.getElem_cons_succ] | simp only [List.getElem_cons_zero])); (repeat (first | simp only [List.set_cons_succ] | simp only [List.set_cons_zero]))
              refine wpAnyH_take (i := 7) (v := undef) rfl (by kernel_rfl) (by kernel_rfl) (by kernel_rfl) (fun _ _ _ h => h) (Or.inr ⟨by kernel_rfl, rfl⟩) hHeld ?_
              (try simp only [Act.put]); (try simp only [List.setIfInBounds_toArray]); (try simp only [List.getElem_toArray]); (repeat (first | simp only [List.getElem_cons_succ] | simp only [List.getElem_cons_zero])); (repeat (first | simp only [List.set_cons_succ] | simp only [List.set_cons_zero]))
              refine wpAnyH_take (i := 8) (v := ?_) rfl (by kernel_rfl) (by kernel_rfl) (by kernel_rfl) (fun _ _ _ h => h) (Or.inl ⟨by rfl, ?_⟩) hHeld ?_
              rotate_left
              · intro w hSw
                (try dsimp only at hSw)
                go_simp
                try with_reducible rfl
              (try simp only [Act.put]); (try simp only [List.setIfInBounds_toArray]); (try simp only [List.getElem_toArray]); (repeat (first | simp only [List.getElem_cons_succ] | simp only [List.getElem_cons_zero])); (repeat (first | simp only [List.set_cons_succ] | simp only [List.set_cons_zero]))
              refine wpAnyH_ready (rs := [9]) (by kernel_rfl) (by simp) ?_
              refine AllReadyH.cons rfl (fun KK hKK => ?_) AllReadyH.nil
              refine step_store_row rfl 36 (.tmp 2) (.tmp 113) rfl rb #[.int .i64 yth, .int .u8 (yk : Int), .int .u64 (yad : Int), .int .u64 (ya : Int), .int .u64 (yb : Int), .slice vp vn vc, .int .u64 (ygot : Int), .bool yok] rfl rfl 36 (bxA ax0 (.slice none 0 0)) H7.out.res (by kernel_rfl) rfl (by simp [Value.oneCell']) ?_
              refine hKK.out _ _ ?_ (fun hHeld => ?_)
              · exact (setRow_other _ _ _ _ (Ne.symm H7.out.l3)).trans H7.out.box
              clear hKK KK
              (try simp only [Act.put]); (try simp only [List.setIfInBounds_toArray]); (try simp only [List.getElem_toArray]); (repeat (first | simp only [List.getElem_cons_succ] | simp only [List.getElem_cons_zero])); (repeat (first | simp only [List.set_cons_succ] | simp only [List.set_cons_zero]))
              refine wpAnyH_take (i := 10) (v := ?_) rfl (by kernel_rfl) (by kernel_rfl) (by kernel_rfl) (fun _ _ _ h => h) (Or.inl ⟨by rfl, ?_⟩) hHeld ?_
              rotate_left
              · intro w hSw
                (try dsimp only at hSw)
                go_simp
                try with_reducible rfl
              (try simp only [Act.put]); (try simp only [List.setIfInBounds_toArray]); (try simp only [List.getElem_toArray]); (repeat (first | simp only [List.getElem_cons_succ] | simp only [List.getElem_cons_zero])); (repeat (first | simp only [List.set_cons_succ] | simp only [List.set_cons_zero]))
              refine wpAnyH_done (by kernel_rfl) ?_ _
              go_simp
              clear hHeld
              go_wp2_with fail
              obtain ⟨e1, e2, e3⟩ := H7.out.setRow #[.int .i64 yth, .int .u8 (yk : Int), .int .u64 (yad : Int), .int .u64 (ya : Int), .int .u64 (yb : Int), .slice vp vn vc, .int .u64 (ygot : Int), .bool yok]
              obtain ⟨g0, g1, g2, g3, g4, g5, g6, g7⟩ : _ ∧ _ ∧ _ ∧ _ ∧ _ ∧ _ ∧ _ ∧ _ := acc_cells (x := ⟨yth, yk, yad, ya, yb, us, ygot, yok⟩) (vs := .slice vp vn vc) e3
              simp only at g0 g1 g2 g3 g4 g5 g6 g7
              refine bodyPost_ret (v := .tuple #[.agg #[.int .i64 yth, .int .u8 (yk : Int), .int .u64 (yad : Int), .int .u64 (ya : Int), .int .u64 (yb : Int), .slice vp vn vc, .int .u64 (ygot : Int), .bool yok], .bool false]) (by simp [results, Tryz.results23, go_sem, g0, g1, g2, g3, g4, g5, g6, g7]) rfl ⟨_, rfl, _, _, rfl, ?_⟩
              exact end_no (y := ⟨yth, yk, yad, ya, yb, us, ygot, yok⟩) (vs := .slice vp vn vc) (by rw [HWS.out]; exact HF.out) (fun h => HNR.out h.1) e1 e2
end Go.Proofs.YtdgagpcofghbaaaGreatDoor
