/- parse: the access with a text; Parse: all lines of a text. -/
import Derived.Test.YtdgagpcofghbaaaGreatDoorRpk
import Derived.Laws.Tables
namespace Go.Proofs.YtdgagpcofghbaaaGreatDoor
open Go.RowKit Go.Shelf
set_option linter.unusedVariables false

abbrev ax0 : Ax := ⟨0, 0, 0, 0, 0, [], 0, false⟩
/-- what parse tells of a line: the cells of its access, or none -/
structure PaP (W : World) (t : List UInt8) (cs : Array Value) (r : Bool) (W' : World) : Prop where
  bel : Below W.heap.size W W'
  yes : ∀ x, lineP t = some x → r = true ∧ ∃ vs, cs = bxA x vs ∧ W'.ownsRow 0 33 1 vs x.vals.length (u64L x.vals) ∧ ∀ g, vs.ownBlock = some g → W.heap.size ≤ g
  no : lineP t = none → r = false
  ex : ∃ (x : Ax) (vp : Option Addr) (vn vc : Nat), cs = bxA x (.slice vp vn vc)
def PaQ (W : World) (t : List UInt8) (v : Value) (W' : World) : Prop := ∃ cs r, v = .tuple #[.agg cs, .bool r] ∧ PaP W t cs r W'
theorem split_le (s f : List UInt8) (h : f ∈ Lib.split s [32]) : f.length ≤ s.length := by
  have key : ∀ (k : Nat) (s f : List UInt8), f ∈ Lib.splitK [32] 0 k s → f.length ≤ s.length := by
    intro k
    induction k with
    | zero =>
      intro s f h
      simp [Lib.splitK] at h
      subst h; exact Nat.le_refl _
    | succ k ih =>
      intro s f h
      rw [Lib.splitK] at h
      split at h
      · simp at h; subst h; exact Nat.le_refl _
      · rcases List.mem_cons.mp h with rfl | h
        · rw [List.length_take]; omega
        · have := ih _ f h
          rw [List.length_drop] at this
          omega
  exact key _ s f h
theorem splitK_cnt : ∀ (k : Nat) (s : List UInt8), (Lib.splitK [32] 0 k s).length ≤ s.length + 1
  | 0, s => by simp [Lib.splitK]
  | k + 1, s => by
    rcases ix_cases 32 s with h | ⟨a, r, ha, rfl⟩
    · rw [Lib.splitK, ix_sub, ix_none h, if_pos (by decide)]
      simp
    · rw [split_step _ _ _ ha]
      have := splitK_cnt k r
      simp only [List.length_cons, List.length_append]
      omega
theorem split_cnt (s : List UInt8) : (Lib.split s [32]).length ≤ s.length + 1 := splitK_cnt _ s
theorem fill_any (k : Nat) (hk : 1 ≤ k ∧ k ≤ 5) (th : Int) (tb B c : Nat) (q : Option Addr) (fs : List (List UInt8)) (W : World) (hF : IsForms W tb) (hB : W.heap[B]? = some (.cells (accC th k 0 0 0 (.slice none 0 0) 0 false) 36 (0, 0))) (hs : SRd W q fs) (hne : ∀ x, q = some x → x.block ≠ B) (hnt : B ≠ tb) (hl : fs.length ≤ 200000000) (hlc : fs.length ≤ c) (hfl : ∀ f ∈ fs, f.length ≤ 200000000) (hTB : ∀ w', Chg (fun x => x = B) W w' → Tb w') :
    Calls Tryz.prog 43 #[.pointer (some ⟨tb, k * 4, none⟩), .pointer (some ⟨B, 0, none⟩), .slice q fs.length c] W fun e W' => ∃ v, e = .returned v ∧ FlQ W B th k fs v W' := by
  have h : k = 1 ∨ k = 2 ∨ k = 3 ∨ k = 4 ∨ k = 5 := by omega
  rcases h with rfl | rfl | rfl | rfl | rfl
  · exact fill_1 th tb B c q fs W hF hB hs hne hnt hl hlc hfl hTB
  · exact fill_2 th tb B c q fs W hF hB hs hne hnt hl hlc hfl hTB
  · exact fill_3 th tb B c q fs W hF hB hs hne hnt hl hlc hfl hTB
  · exact fill_4 th tb B c q fs W hF hB hs hne hnt hl hlc hfl hTB
  · exact fill_5 th tb B c q fs W hF hB hs hne hnt hl hlc hfl hTB

theorem below_row {W w : World} {g : Nat} {cs : Array Value} (h : Below W.heap.size W w) (hg : W.heap.size ≤ g) : Below W.heap.size W (w.setRow g cs) :=
  h.trans ⟨rfl, rfl, rfl, by simp, fun i hi => by rw [setRow_other _ _ _ _ (by omega)]⟩
theorem zero_one : (bxA ax0 (.slice none 0 0)).all (·.oneCell') = true := by simp [Value.oneCell']
theorem acc_one (x : Ax) (p : Option Addr) (n c : Nat) : (bxA x (.slice p n c)).all (·.oneCell') = true := by simp [Value.oneCell']
theorem acc_cells {W : World} {b : Nat} {x : Ax} {vs : Value} (h : W.heap[b]? = some (.cells (bxA x vs) 36 (0, 0))) : W.cell? ⟨b, 0, none⟩ = some (.int .i64 x.th) ∧ W.cell? ⟨b, 1, none⟩ = some (.int .u8 (x.kind : Int)) ∧ W.cell? ⟨b, 2, none⟩ = some (.int .u64 (x.addr : Int)) ∧ W.cell? ⟨b, 3, none⟩ = some (.int .u64 (x.a : Int)) ∧ W.cell? ⟨b, 4, none⟩ = some (.int .u64 (x.b : Int)) ∧ W.cell? ⟨b, 5, none⟩ = some vs ∧ W.cell? ⟨b, 6, none⟩ = some (.int .u64 (x.got : Int)) ∧ W.cell? ⟨b, 7, none⟩ = some (.bool x.ok) :=
  ⟨cell_of h 0, cell_of h 1, cell_of h 2, cell_of h 3, cell_of h 4, cell_of h 5, cell_of h 6, cell_of h 7⟩
theorem zero_cells {W : World} {b : Nat} (h : W.heap[b]? = some (.cells #[.int .i64 0, .int .u8 0, .int .u64 0, .int .u64 0, .int .u64 0, .slice none 0 0, .int .u64 0, .bool false] 36 (0, 0))) : W.cell? ⟨b, 0, none⟩ = some (.int .i64 0) ∧ W.cell? ⟨b, 1, none⟩ = some (.int .u8 0) ∧ W.cell? ⟨b, 2, none⟩ = some (.int .u64 0) ∧ W.cell? ⟨b, 3, none⟩ = some (.int .u64 0) ∧ W.cell? ⟨b, 4, none⟩ = some (.int .u64 0) ∧ W.cell? ⟨b, 5, none⟩ = some (.slice none 0 0) ∧ W.cell? ⟨b, 6, none⟩ = some (.int .u64 0) ∧ W.cell? ⟨b, 7, none⟩ = some (.bool false) :=
  ⟨cell_of h 0, cell_of h 1, cell_of h 2, cell_of h 3, cell_of h 4, cell_of h 5, cell_of h 6, cell_of h 7⟩
theorem PaP.bad {W W' : World} {t : List UInt8} (hn : lineP t = none) (hb : Below W.heap.size W W') : PaP W t (bxA ax0 (.slice none 0 0)) false W' :=
  ⟨hb, (fun x e => by rw [hn] at e; cases e), fun _ => rfl, ⟨ax0, none, 0, 0, rfl⟩⟩
theorem few_none {t : List UInt8} (h : (Lib.split t [32]).length < 2) : lineP t = none := by
  unfold lineP accP
  split
  · rename_i f0 f1 r e
    rw [e] at h
    simp only [List.length_cons] at h
    omega
  · rfl
theorem line_eq {t f0 f1 : List UInt8} {r : List (List UInt8)} (h : Lib.split t [32] = f0 :: f1 :: r) : lineP t = match intP f0 with | none => none | some th => match kindP f1 with | none => none | some k => fillP th k r := by
  unfold lineP
  rw [h]
  unfold accP
  simp only
  cases intP f0 with
  | none => rfl
  | some th =>
    cases kindP f1 with
    | none => rfl
    | some k => rfl

set_option maxRecDepth 100000 in
set_option maxHeartbeats 4000000 in
theorem parse_line (t : List UInt8) (ht : t.length ≤ 100000000) (tb : Nat) (W : World) (hF : IsForms W tb) (T : Tb W) :
    Calls Tryz.prog 21 #[.pointer (some ⟨tb, 0, none⟩), .string (mkS t)] W fun e W' => ∃ v, e = .returned v ∧ PaQ W t v W' := by
  obtain ⟨w0, hw0⟩ : ∃ w0, w0 = W.alloc (.cells (bxA ax0 (.slice none 0 0)) 36) := ⟨_, rfl⟩
  obtain ⟨rb, hrb⟩ : ∃ rb, rb = W.heap.size := ⟨_, rfl⟩
  have B0 : Below W.heap.size W w0 := by rw [hw0]; exact below_alloc _ _
  have X0 : w0.heap[rb]? = some (.cells (bxA ax0 (.slice none 0 0)) 36 (0, 0)) := by rw [hw0, hrb]; exact heap_alloc_new _ _
  have hsp := split_any t (by omega) w0 (T.on B0)
  obtain ⟨fs, hfs⟩ : ∃ fs, fs = Lib.split t [32] := ⟨_, rfl⟩
  rw [← hfs] at hsp
  have HRB : Hid (W.heap.size ≤ rb) := keepH (by omega)
  have HFL : Hid (∀ f ∈ fs, f.length ≤ 200000000) := keepH (fun f hf => by rw [hfs] at hf; have := split_le t f hf; omega)
  have hcnt : fs.length ≤ 200000000 := by rw [hfs]; have := split_cnt t; omega
  obtain ⟨s, hs⟩ : ∃ s, s = mkS t := ⟨_, rfl⟩
  rw [← hs] at hsp ⊢
  obtain ⟨n, hn⟩ : ∃ n, n = fs.length := ⟨_, rfl⟩
  rw [← hn] at hsp hcnt
  have HFS := keepH hfs
  have HN := keepH hn
  have HTW := keepH T
  have HFW := keepH hF
  have HTB : Hid (tb < W.heap.size) := keepH (lt_of hF)
  have HRE := keepH hrb
  have HB0 := keepH B0
  have HX0 := keepH X0
  obtain ⟨fb, hfb⟩ : ∃ fb, fb = w0.heap.size := ⟨_, rfl⟩
  rw [← hfb] at hsp
  have HFB : Hid (fb = w0.heap.size) := keepH hfb
  clear hs hfs hn hF T B0 X0 hfb
  go_enter Tryz.func21, Tryz.ntmps21
  go_upto_region 1 with fail
  rw [show W.alloc (.cells #[.int .i64 0, .int .u8 0, .int .u64 0, .int .u64 0, .int .u64 0, .slice none 0 0, .int .u64 0, .bool false] 36) = w0 from hw0.symm, ← hrb]
  clear hw0 hrb
  go_wp2_with fail
  refine hsp.mono ?_
  rintro e w1 ⟨rfl, hw1⟩
  have C1 : Below w0.heap.size w0 w1 := by rw [hw1]; exact below_alloc _ _
  have Y1 : w1.heap[fb]? = some (.cells (fs.map (fun f => Value.string (mkS f))).toArray 9 (0, 0)) := by rw [hw1, HFB.out]; exact heap_alloc_new _ _
  have HW1 : Hid (Below W.heap.size W w1 ∧ w1.heap[rb]? = some (.cells (bxA ax0 (.slice none 0 0)) 36 (0, 0)) ∧ SRd w1 (some ⟨fb, 0, none⟩) fs ∧ rb < fb ∧ fb < w1.heap.size) := keepH ⟨below_chain HB0.out C1, heap_below HX0.out C1, ⟨fb, 0, rfl, lt_of Y1, fun j f hf => by rw [cell_of Y1, Nat.zero_add]; simp [hf]⟩, by have := lt_of HX0.out; have := HFB.out; omega, lt_of Y1⟩
  clear C1 Y1 hw1 hsp HB0 HX0
  by_cases h2 : n < 2
  · have q1 : (n : Int) < 2 := by omega
    go_wp2_with (first | ((refine wpList_store_row rfl 36 _ _ rfl rb #[.int .i64 0, .int .u8 0, .int .u64 0, .int .u64 0, .int .u64 0, .slice none 0 0, .int .u64 0, .bool false] rfl rfl 36 (bxA ax0 (.slice none 0 0)) HW1.out.2.1 (by kernel_rfl) rfl zero_one ?_)) | go_in)
    obtain ⟨g0, g1, g2, g3, g4, g5, g6, g7⟩ := zero_cells (setRow_heap _ rb _ #[.int .i64 0, .int .u8 0, .int .u64 0, .int .u64 0, .int .u64 0, .slice none 0 0, .int .u64 0, .bool false] 36 (0, 0) HW1.out.2.1)
    refine bodyPost_ret (v := .tuple #[.agg (bxA ax0 (.slice none 0 0)), .bool false]) (by simp [results, Tryz.results21, go_sem, g0, g1, g2, g3, g4, g5, g6, g7]) rfl ⟨_, rfl, _, _, rfl, ?_⟩
    exact PaP.bad (few_none (by rw [← HFS.out, ← HN.out]; exact h2)) (below_row HW1.out.1 HRB.out)
  · have q1 : ¬ (n : Int) < 2 := by omega
    obtain ⟨f0, f1, r, hfr⟩ : ∃ f0 f1 r, fs = f0 :: f1 :: r := by
      have hl : 2 ≤ fs.length := by rw [← HN.out]; omega
      match fs, hl with
      | f0 :: f1 :: r, _ => exact ⟨f0, f1, r, rfl⟩
    have HFR := keepH hfr
    have HLE := keepH (line_eq (HFS.out.symm.trans hfr))
    have hSR := HW1.out.2.2.1
    obtain ⟨fb', off', hq, _, hcells⟩ := hSR
    injection hq with hq
    injection hq with hq1 hq2
    subst hq1 hq2
    have c0 : w1.cell? ⟨fb, 0, none⟩ = some (.string (mkS f0)) := hcells 0 f0 (by rw [hfr]; rfl)
    have hin := integer_any f0 (HFL.out f0 (by rw [hfr]; simp)) w1 (HTW.out.on HW1.out.1)
    obtain ⟨s0, hs0⟩ : ∃ s, s = mkS f0 := ⟨_, rfl⟩
    rw [← hs0] at c0 hin
    have q2 : (0 : Int) < (n : Int) := by omega
    have q3 : (1 : Int) < (n : Int) := by omega
    clear hs0 hcells hfr
    go_wp2_with fail
    refine hin.mono ?_
    rintro e w2 ⟨v, rfl, hv, C2⟩
    have HW2 : Hid (Below W.heap.size W w2 ∧ w2.heap[rb]? = some (.cells (bxA ax0 (.slice none 0 0)) 36 (0, 0)) ∧ SRd w2 (some ⟨fb, 0, none⟩) fs ∧ rb < fb ∧ fb < w2.heap.size) := keepH ⟨below_chain HW1.out.1 C2, heap_below HW1.out.2.1 C2, HW1.out.2.2.1.on C2, HW1.out.2.2.2.1, Nat.lt_of_lt_of_le HW1.out.2.2.2.2 C2.size⟩
    clear C2 hin c0 HW1
    rcases hv with ⟨th, hth, rfl⟩ | ⟨hth, th, rfl⟩
    · have HTH := keepH hth
      have c1 : w2.cell? ⟨fb, 1, none⟩ = some (.string (mkS f1)) := by
        obtain ⟨fb', off', hq, _, hcells⟩ := HW2.out.2.2.1
        injection hq with hq
        injection hq with hq1 hq2
        subst hq1 hq2
        have := hcells 1 f1 (by rw [HFR.out]; rfl)
        simpa using this
      have hko := kind_of f1 tb w2 (HFW.out.on HW2.out.1)
      obtain ⟨s1, hs1⟩ : ∃ s, s = mkS f1 := ⟨_, rfl⟩
      rw [← hs1] at c1 hko
      clear hs1 hth
      cases hk : kindP f1 with
      | none =>
        rw [show kindV f1 = .tuple #[.int .u8 0, .bool false] by unfold kindV; rw [hk]] at hko
        have HK := keepH hk
        clear hk
        go_wp2_with fail
        refine hko.mono ?_
        rintro e w3 ⟨rfl, hw3⟩
        rw [hw3]
        clear hw3 hko
        go_wp2_with (first | ((refine wpList_store_row rfl 36 _ _ rfl rb #[.int .i64 0, .int .u8 0, .int .u64 0, .int .u64 0, .int .u64 0, .slice none 0 0, .int .u64 0, .bool false] rfl rfl 36 (bxA ax0 (.slice none 0 0)) HW2.out.2.1 (by kernel_rfl) rfl zero_one ?_)) | go_in)
        obtain ⟨g0, g1, g2, g3, g4, g5, g6, g7⟩ := zero_cells (setRow_heap _ rb _ #[.int .i64 0, .int .u8 0, .int .u64 0, .int .u64 0, .int .u64 0, .slice none 0 0, .int .u64 0, .bool false] 36 (0, 0) HW2.out.2.1)
        refine bodyPost_ret (v := .tuple #[.agg (bxA ax0 (.slice none 0 0)), .bool false]) (by simp [results, Tryz.results21, go_sem, g0, g1, g2, g3, g4, g5, g6, g7]) rfl ⟨_, rfl, _, _, rfl, ?_⟩
        exact PaP.bad (by rw [HLE.out, HTH.out]; simp only; rw [HK.out]) (below_row HW2.out.1 HRB.out)
      | some k =>
        rw [show kindV f1 = .tuple #[.int .u8 (k : Int), .bool true] by unfold kindV; rw [hk]] at hko
        have hkk := (kindP_some hk).2
        have HK := keepH hk
        clear hk
        obtain ⟨w3, hw3⟩ : ∃ w3, w3 = w2.alloc (.cells (accC th k 0 0 0 (.slice none 0 0) 0 false) 36) := ⟨_, rfl⟩
        obtain ⟨B, hB⟩ : ∃ B, B = w2.heap.size := ⟨_, rfl⟩
        have C3 : Below w2.heap.size w2 w3 := by rw [hw3]; exact below_alloc _ _
        have X3 : w3.heap[B]? = some (.cells (accC th k 0 0 0 (.slice none 0 0) 0 false) 36 (0, 0)) := by rw [hw3, hB]; exact heap_alloc_new _ _
        have HW3 : Hid (Below W.heap.size W w3 ∧ w3.heap[rb]? = some (.cells (bxA ax0 (.slice none 0 0)) 36 (0, 0)) ∧ SRd w3 (some ⟨fb, 0, none⟩) fs ∧ rb ≠ B ∧ fb ≠ B ∧ tb ≠ B ∧ W.heap.size ≤ B ∧ w3.heap[B]? = some (.cells (accC th k 0 0 0 (.slice none 0 0) 0 false) 36 (0, 0))) := keepH ⟨below_chain HW2.out.1 C3, heap_below HW2.out.2.1 C3, HW2.out.2.2.1.on C3, by have := lt_of HW2.out.2.1; omega, by have := HW2.out.2.2.2.2; omega, by have := HW2.out.1.size; have := HTB.out; omega, by have := HW2.out.1.size; omega, X3⟩
        obtain ⟨ad, hsl0, hsd, had⟩ := slice_strs (i := 2) HW3.out.2.2.1 HN.out (Nat.le_refl _) (by omega)
        have hsl : ∀ w, (Instr.slice 56 (.slice (some ⟨fb, 0, none⟩) n n) (some (.int .i64 2)) none none).run Tryz.prog w = .ok (.slice (some ad) (n - 2) (n - 2)) w := hsl0
        have hdr : fs.drop 2 = r := by rw [HFR.out]; rfl
        rw [hdr] at hsd
        have hrl : r.length = n - 2 := by rw [HN.out, HFR.out]; simp
        have hadb : ad.block = fb := had ⟨fb, 0, none⟩ rfl
        have hTall : ∀ w', Chg (fun x => x = B) w3 w' → Below W.heap.size W w' := fun w' hc => HW3.out.1.trans ⟨hc.os, hc.tape, hc.output, hc.size, fun i hi => hc.block i (Nat.lt_of_lt_of_le hi HW3.out.1.size) (by have := HW3.out.2.2.2.2.2.2.1; omega)⟩
        have HTA := keepH hTall
        have hfi : ∀ m, Calls Tryz.prog 43 #[.pointer (some ⟨tb, k * 4, none⟩), .pointer (some ⟨B, 0, none⟩), .slice (some ad) r.length (n - 2)] (w3.drewN m) fun e W' => ∃ v, e = .returned v ∧ FlQ (w3.drewN m) B th k r v W' := fun m =>
          fill_any k hkk th tb B (n - 2) (some ad) r (w3.drewN m) (HFW.out.on (below_drewN HW3.out.1 m)) HW3.out.2.2.2.2.2.2.2 (hsd.on (below_drewN (Below.refl _ _) m)) (fun x hx => by injection hx with hx; rw [← hx, hadb]; exact HW3.out.2.2.2.2.1) (Ne.symm HW3.out.2.2.2.2.2.1) (by omega) (by omega) (fun f hf => HFL.out f (by rw [HFR.out]; simp [hf])) (fun w' hc => HTW.out.on (HTA.out w' ⟨hc.os, hc.tape, hc.output, hc.size, hc.block⟩))
        rw [hrl] at hfi
        have HFI := keepH hfi
        obtain ⟨m2, hm2⟩ : ∃ m2, m2 = n - 2 := ⟨_, rfl⟩
        rw [← hm2] at HFI hsl
        have qk0 : (0 : Int) ≤ (k : Int) := by omega
        have qk6 : (k : Int) < 6 := by omega
        have HWW := keepH hw3
        clear hw3 C3 X3 hsl0 hsd had hdr hrl hadb hTall hfi hm2
        go_upto_region 11 with (first | (go_at_call 42; refine hko.mono ?_; rintro e w9 ⟨rfl, hw9⟩; rw [hw9]; clear hw9 w9))
        rw [show w2.alloc (.cells #[.int .i64 th, .int .u8 (k : Int), .int .u64 0, .int .u64 0, .int .u64 0, .slice none 0 0, .int .u64 0, .bool false] 36) = w3 from HWW.out.symm, ← hB]
        clear hB hko
        go_region_held3 (fun _ => True) (trivial) (first | (go_at_call 43; refine (HFI.out _).mono ?_; rintro e w4 ⟨v, rfl, hv⟩; obtain ⟨rr, rfl, hP⟩ := hv; have HP := keepH hP; clear hP))
        all_goals (
          have HB4 : Hid (Below W.heap.size W w4 ∧ w4.heap[rb]? = some (.cells (bxA ax0 (.slice none 0 0)) 36 (0, 0))) := keepH ⟨HTA.out w4 ⟨HP.out.chg.os, HP.out.chg.tape, HP.out.chg.output, HP.out.chg.size, HP.out.chg.block⟩, (HP.out.chg.block rb (lt_of HW3.out.2.1) HW3.out.2.2.2.1).trans HW3.out.2.1⟩
          cases rr
          · have HNO : Hid (fillP th k r = none) := keepH (by
              cases hq : fillP th k r with
              | none => rfl
              | some x => have := (HP.out.yes x hq).1; cases this)
            go_wp2_with (first | ((refine wpList_store_row rfl 36 _ _ rfl rb #[.int .i64 0, .int .u8 0, .int .u64 0, .int .u64 0, .int .u64 0, .slice none 0 0, .int .u64 0, .bool false] rfl rfl 36 (bxA ax0 (.slice none 0 0)) HB4.out.2 (by kernel_rfl) rfl zero_one ?_)) | go_in)
            obtain ⟨g0, g1, g2, g3, g4, g5, g6, g7⟩ := zero_cells (setRow_heap _ rb _ #[.int .i64 0, .int .u8 0, .int .u64 0, .int .u64 0, .int .u64 0, .slice none 0 0, .int .u64 0, .bool false] 36 (0, 0) HB4.out.2)
            refine bodyPost_ret (v := .tuple #[.agg (bxA ax0 (.slice none 0 0)), .bool false]) (by simp [results, Tryz.results21, go_sem, g0, g1, g2, g3, g4, g5, g6, g7]) rfl ⟨_, rfl, _, _, rfl, ?_⟩
            exact PaP.bad (by rw [HLE.out, HTH.out]; simp only; rw [HK.out]; exact HNO.out) (below_row HB4.out.1 HRB.out)
          · obtain ⟨x, hx⟩ : ∃ x, fillP th k r = some x := by
              cases hq : fillP th k r with
              | none => have := HP.out.no hq; cases this
              | some x => exact ⟨x, rfl⟩
            obtain ⟨_, vs, hbox, hrow, hnew⟩ := HP.out.yes x hx
            obtain ⟨vp, vn, vc, rfl⟩ : ∃ vp vn vc, vs = .slice vp vn vc := by
              rcases hrow.2 with ⟨hv, _⟩ | ⟨g, cap, cur, hv, _⟩
              · exact ⟨_, _, _, hv⟩
              · exact ⟨_, _, _, hv⟩
            obtain ⟨e0, e1, e2, e3, e4, e5, e6, e7⟩ := acc_cells hbox
            have HLX : Hid (lineP t = some x) := keepH (by rw [HLE.out, HTH.out]; simp only; rw [HK.out]; exact hx)
            have HROW := keepH (And.intro hrow hnew)
            obtain ⟨xth, xk, xad, xa, xb, xvals, xgot, xok⟩ := x
            simp only at e0 e1 e2 e3 e4 e5 e6 e7
            clear hx hbox hrow hnew
            go_wp2_with (first | ((refine wpList_store_row rfl 36 _ _ rfl rb #[.int .i64 xth, .int .u8 (xk : Int), .int .u64 (xad : Int), .int .u64 (xa : Int), .int .u64 (xb : Int), .slice vp vn vc, .int .u64 (xgot : Int), .bool xok] rfl rfl 36 (bxA ax0 (.slice none 0 0)) HB4.out.2 (by kernel_rfl) rfl (by simp [Value.oneCell']) ?_)) | go_in)
            have hrow' := setRow_heap _ rb _ (bxA ⟨xth, xk, xad, xa, xb, xvals, xgot, xok⟩ (.slice vp vn vc)) 36 (0, 0) HB4.out.2
            obtain ⟨g0, g1, g2, g3, g4, g5, g6, g7⟩ := acc_cells hrow'
            simp only at g0 g1 g2 g3 g4 g5 g6 g7
            refine bodyPost_ret (v := .tuple #[.agg (bxA ⟨xth, xk, xad, xa, xb, xvals, xgot, xok⟩ (.slice vp vn vc)), .bool true]) (by simp [results, Tryz.results21, go_sem, g0, g1, g2, g3, g4, g5, g6, g7]) rfl ⟨_, rfl, _, _, rfl, below_row HB4.out.1 HRB.out, ?_, ?_, ⟨_, vp, vn, vc, rfl⟩⟩
            · intro x' e
              rw [HLX.out] at e
              injection e with e
              subst e
              refine ⟨rfl, _, rfl, row_kept HROW.out.1 (fun g hg => setRow_other _ _ _ _ ?_), fun g hg => ?_⟩
              · have := HROW.out.2 g hg
                have h2 := lt_of HW3.out.2.1
                intro e
                subst e
                simp at this
                omega
              · have h1 := HROW.out.2 g hg
                have h2 := HW3.out.1.size
                simp at h1
                omega
            · intro e
              rw [HLX.out] at e
              cases e)
    · have HTH := keepH hth
      clear hth
      go_wp2_with (first | ((refine wpList_store_row rfl 36 _ _ rfl rb #[.int .i64 0, .int .u8 0, .int .u64 0, .int .u64 0, .int .u64 0, .slice none 0 0, .int .u64 0, .bool false] rfl rfl 36 (bxA ax0 (.slice none 0 0)) HW2.out.2.1 (by kernel_rfl) rfl zero_one ?_)) | go_in)
      obtain ⟨g0, g1, g2, g3, g4, g5, g6, g7⟩ := zero_cells (setRow_heap _ rb _ #[.int .i64 0, .int .u8 0, .int .u64 0, .int .u64 0, .int .u64 0, .slice none 0 0, .int .u64 0, .bool false] 36 (0, 0) HW2.out.2.1)
      refine bodyPost_ret (v := .tuple #[.agg (bxA ax0 (.slice none 0 0)), .bool false]) (by simp [results, Tryz.results21, go_sem, g0, g1, g2, g3, g4, g5, g6, g7]) rfl ⟨_, rfl, _, _, rfl, ?_⟩
      exact PaP.bad (by rw [HLE.out, HTH.out]) (below_row HW2.out.1 HRB.out)
end Go.Proofs.YtdgagpcofghbaaaGreatDoor
