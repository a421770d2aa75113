/- An operation as a line, by the program. (mkSch.py) -/
import Derived.Test.YtmmaniolaljjlaaGreatDoorB6Scf
namespace Go.Proofs.YtmmaniolaljjlaaGreatDoor
open Go.RowKit Go.Shelf Go.Maps
set_option linter.unusedVariables false

/-- numbers that lie somewhere -/
def KRd (W : World) (p : Option Addr) (xs : List Nat) : Prop :=
  xs = [] ∨ ∃ bk off, p = some ⟨bk, off, none⟩ ∧ bk < W.heap.size ∧ ∀ (i x : Nat), xs[i]? = some x → W.cell? ⟨bk, off + i, none⟩ = some (.int .u64 (x : Int))
theorem KRd.get {W : World} {p : Option Addr} {xs : List Nat} (h : KRd W p xs) (i x : Nat) (hx : xs[i]? = some x) : ∃ bk off, p = some ⟨bk, off, none⟩ ∧ bk < W.heap.size ∧ W.cell? ⟨bk, off + i, none⟩ = some (.int .u64 (x : Int)) := by
  rcases h with rfl | ⟨bk, off, rfl, hb, h⟩
  · simp at hx
  · exact ⟨bk, off, rfl, hb, h i x hx⟩
theorem KRd.on {W X : World} {p : Option Addr} {xs : List Nat} (h : KRd W p xs) (hb : Below W.heap.size W X) : KRd X p xs := by
  rcases h with rfl | ⟨bk, off, rfl, hl, h⟩
  · exact .inl rfl
  · exact .inr ⟨bk, off, rfl, Nat.lt_of_lt_of_le hl hb.size, fun i x hx => cell_below (h i x hx) hb⟩
structure StR (Z : World) (ls : List (List UInt8)) (v : Value) (wr : World) : Prop where
  row : wr.ownsRow 0 9 1 v ls.length (strsRow ls)
  bel : Below Z.heap.size Z wr
  new : ∀ b, v.ownBlock = some b → Z.heap.size ≤ b
theorem StR.on {Z : World} {ls : List (List UInt8)} {v : Value} {wr X : World} (h : StR Z ls v wr) (hb : Below wr.heap.size wr X) : StR Z ls v X :=
  ⟨row_kept h.row fun b hb' => hb.block b (row_lt h.row b hb'), below_chain h.bel hb, h.new⟩
theorem StR.more {Z : World} {ls : List (List UInt8)} {v v' : Value} {w1 w2 : World} {r : List UInt8} {o : Obj} (h : StR Z ls v w1) (hr : w2.ownsRow 0 9 1 v' (ls.length + 1) (strsRow ls ++ [.string (mkS r)])) (hg : (w1.alloc o).grownBy w2 v.ownBlock) (hw : v'.ownBlock = v.ownBlock ∨ v'.ownBlock = some (w1.alloc o).heap.size) : StR Z (ls ++ [r]) v' w2 := by
  have hs := h.bel.size
  refine ⟨?_, (h.bel.alloc hs _).grown hg (by simp; omega) (fun k hk => h.new k hk), ?_⟩
  · rw [List.length_append, strsRow_snoc]
    exact hr
  · intro b hb
    rcases hw with e1 | e1
    · rw [e1] at hb
      exact h.new b hb
    · rw [e1] at hb
      simp at hb
      omega
theorem StR.one (Z w : World) (hb : Below Z.heap.size Z w) (r : List UInt8) : StR Z [r] (.slice (some ⟨w.heap.size, 0, none⟩) 1 1) (w.alloc (.cells #[.string (mkS r)] 9)) :=
  ⟨⟨rfl, .inr ⟨w.heap.size, 1, _, rfl, Nat.zero_le _, heap_alloc_new _ _, Nat.le_refl _, by decide, rfl, rfl⟩⟩, hb.alloc hb.size _, fun b e => by simp [Value.ownBlock] at e; have := hb.size; omega⟩
theorem StR.slice {Z : World} {ls : List (List UInt8)} {v : Value} {wr : World} (h : StR Z ls v wr) (hn : 0 < ls.length) : ∃ g c, v = .slice (some ⟨g, 0, none⟩) ls.length c ∧ g < wr.heap.size ∧ ls.length ≤ c ∧ ∀ (j : Nat) f, ls[j]? = some f → wr.cell? ⟨g, j, none⟩ = some (.string (mkS f)) := by
  have hl := fun k hk => row_lt h.row k hk
  have hc := fun g (hg : v.ownBlock = some g) => h.row.cells (g := g) hg
  rcases h.row.2 with ⟨hv, h0⟩ | ⟨g, cap, cur, hv, _, _, hcap, _⟩
  · omega
  · refine ⟨g, cap, hv, hl g (by rw [hv]; rfl), hcap, fun j f hf => ?_⟩
    have := hc g (by rw [hv]; rfl) j (.string (mkS f)) (by unfold strsRow; rw [List.getElem?_map, hf]; rfl)
    rw [Addr.add_mid] at this
    simpa using this
def numAt (key val old lo hi : Nat) : Nat → Nat
  | 1 => key | 2 => val | 3 => old | 9 => lo | 10 => hi | _ => 0
theorem numAt_cell (k key val old hnd : Nat) (set : Bool) (rt ri : Int) (vk : Value) (lo hi : Nat) : ∀ o ∈ numK k, (opR k key val old hnd set rt ri vk lo hi)[o]? = some (.int .u64 (numAt key val old lo hi o : Int)) := by
  intro o ho
  unfold numK at ho
  split at ho <;> simp at ho
  all_goals (first | (subst ho; rfl) | (rcases ho with rfl | rfl | rfl <;> rfl) | (rcases ho with rfl | rfl <;> rfl))
theorem numAt_u {key val old lo hi : Nat} (h1 : isU key) (h2 : isU val) (h3 : isU old) (h5 : isU lo) (h6 : isU hi) (o : Nat) : isU (numAt key val old lo hi o) := by
  unfold numAt
  split <;> first | assumption | (unfold isU; omega)
def partsO (k key val old hnd : Nat) (set : Bool) (rt ri : Int) (keys : List Nat) (lo hi : Nat) : List (List UInt8) :=
  (([opW k] ++ (if hndK k = true then [hText hnd set rt ri] else [])) ++ (numK k).map (fun o => Lib.decDigits (numAt key val old lo hi o))) ++ (if kysK k = true then keys.map Lib.decDigits else [])
def opT (k key val old hnd : Nat) (set : Bool) (rt ri : Int) (keys : List Nat) (lo hi : Nat) : List UInt8 := Lib.join (partsO k key val old hnd set rt ri keys lo hi) [32]
theorem join_len : ∀ (fs : List (List UInt8)), (∀ f ∈ fs, f.length ≤ 100) → (Lib.join fs [32]).length ≤ 101 * fs.length
  | [], _ => by simp [Lib.join]
  | [a], h => by
    have := h a (by simp)
    simp [Lib.join_one]
    omega
  | a :: b :: r, h => by
    have h1 := h a (by simp)
    have ih := join_len (b :: r) (fun f hf => h f (by simp [hf]))
    rw [join_cc]
    simp only [List.length_append, List.length_cons] at ih ⊢
    omega
theorem opW_len (k : Nat) : (opW k).length ≤ 8 := by
  unfold opW
  by_cases h : k < 11
  · have : k = 0 ∨ k = 1 ∨ k = 2 ∨ k = 3 ∨ k = 4 ∨ k = 5 ∨ k = 6 ∨ k = 7 ∨ k = 8 ∨ k = 9 ∨ k = 10 := by omega
    rcases this with rfl | rfl | rfl | rfl | rfl | rfl | rfl | rfl | rfl | rfl | rfl <;> decide
  · rw [List.getD, List.getElem?_eq_none (by show 11 ≤ k; omega)]
    simp
theorem hText_len {hnd : Nat} {set : Bool} {rt ri : Int} (h4 : isU hnd) (ha : isI rt) (hb : isI ri) : (hText hnd set rt ri).length ≤ 60 := by
  have := itoa_len ha
  have := itoa_len hb
  have := dec_len h4
  unfold hText
  split <;> simp <;> omega
theorem parts_len (k key val old hnd : Nat) (set : Bool) (rt ri : Int) (keys : List Nat) (lo hi : Nat) : (partsO k key val old hnd set rt ri keys lo hi).length ≤ 5 + keys.length := by
  unfold partsO
  have := numK_len k
  split <;> split <;> simp <;> omega
theorem parts_each {k key val old hnd : Nat} {set : Bool} {rt ri : Int} {keys : List Nat} {lo hi : Nat} (h1 : isU key) (h2 : isU val) (h3 : isU old) (h4 : isU hnd) (h5 : isU lo) (h6 : isU hi) (ha : isI rt) (hb : isI ri) (hk : ∀ u ∈ keys, isU u) : ∀ f ∈ partsO k key val old hnd set rt ri keys lo hi, f.length ≤ 100 := by
  intro f hf
  unfold partsO at hf
  simp only [List.mem_append, List.mem_map, List.mem_singleton] at hf
  rcases hf with ((rfl | hf) | ⟨o, _, rfl⟩) | hf
  · have := opW_len k; omega
  · split at hf
    · simp at hf; subst hf; have := hText_len (set := set) h4 ha hb; omega
    · simp at hf
  · have := dec_len (numAt_u h1 h2 h3 h5 h6 o); omega
  · split at hf
    · obtain ⟨u, hu, rfl⟩ := List.mem_map.1 hf
      have := dec_len (hk u hu); omega
    · simp at hf

set_option maxRecDepth 100000 in
set_option maxHeartbeats 8000000 in
theorem print_any (b : Nat) (k key val old hnd : Nat) (set : Bool) (rt ri : Int) (kp : Option Addr) (kc lo hi : Nat) (keys : List Nat) (hk : k < 256) (hh : hasK k = true) (h1 : isU key) (h2 : isU val) (h3 : isU old) (h4 : isU hnd) (h5 : isU lo) (h6 : isU hi) (ha : isI rt) (hb : isI ri) (hks : ∀ u ∈ keys, isU u) (hkl : keys.length ≤ 10000000) (W : World) (hV : IsVoc W b) (hW : Wd W) (T : Tb W) (hK : KRd W kp keys) :
    Calls Tryz.prog 25 #[.map (some b), .agg (opR k key val old hnd set rt ri (.slice kp keys.length kc) lo hi)] W fun e W' => e = .returned (.string (mkS (opT k key val old hnd set rt ri keys lo hi))) ∧ Below W.heap.size W W' := by
  obtain ⟨n, hn⟩ : ∃ n, n = keys.length := ⟨_, rfl⟩
  rw [← hn]
  obtain ⟨w1, hw1⟩ : ∃ w1, w1 = W.alloc (.cells (opR k key val old hnd set rt ri (.slice kp n kc) lo hi) 28) := ⟨_, rfl⟩
  obtain ⟨P, hP⟩ : ∃ P, P = W.heap.size := ⟨_, rfl⟩
  have B1 : Below W.heap.size W w1 := by rw [hw1]; exact below_alloc _ _
  have X1 : w1.heap[P]? = some (.cells (opR k key val old hnd set rt ri (.slice kp n kc) lo hi) 28 (0, 0)) := by rw [hw1, hP]; exact heap_alloc_new _ _
  have HYE := keepH (fields_any b P k hk w1 (hV.on B1) (hW.on B1) (cell_of X1 0) hh)
  have HPH := keepH (fun w (hbe : Below W.heap.size W w) => ph_any k key val old hnd set rt ri (.slice kp n kc) lo hi h4 ha hb w (T.on hbe))
  have HWD := keepH (fun w (hbe : Below W.heap.size W w) => word_any k hk w (hW.on hbe))
  have HNC := keepH (numAt_cell k key val old hnd set rt ri (.slice kp n kc) lo hi)
  have HDE := keepH (fun o w (hbe : Below W.heap.size W w) => dec_any (numAt key val old lo hi o) (numAt_u h1 h2 h3 h5 h6 o) w (T.on hbe))
  have HDK := keepH (fun u (hu : u ∈ keys) w (hbe : Below W.heap.size W w) => dec_any u (hks u hu) w (T.on hbe))
  have HKR := keepH hK
  have HTL := keepH (parts_len k key val old hnd set rt ri keys lo hi)
  have HTE := keepH (parts_each (k := k) (set := set) (keys := keys) h1 h2 h3 h4 h5 h6 ha hb hks)
  have HJN := keepH (fun (bk c : Nat) (fs : List (List UInt8)) (w : World) => join_any bk c fs w)
  have HW1 := keepH hw1
  have HP := keepH hP
  have HB1 := keepH B1
  have HX1 := keepH X1
  have HLE := keepH (numK_len k)
  have HN := keepH hn
  obtain ⟨TT, hTT⟩ : ∃ TT, TT = opT k key val old hnd set rt ri keys lo hi := ⟨_, rfl⟩
  rw [← hTT]
  have HTT := keepH hTT
  obtain ⟨i0, hi0, hz0, hz1, hz2⟩ := info_parts infoStr
  have HI := keepH hi0
  have hn2 : n ≤ 10000000 := by omega
  clear hw1 hP B1 X1 hV hW T hK hTT h1 h2 h3 h4 h5 h6 ha hb hk hh hks hkl hn hi0
  go_enter Tryz.func25, Tryz.ntmps25
  go_upto_region 1 with fail
  rw [← HW1.out, ← HP.out]
  go_wp2_with fail
  refine HYE.out.mono ?_
  rintro e w2 ⟨pp, rfl, hnum, B2⟩
  obtain ⟨m, hm⟩ : ∃ m, m = (numK k).length := ⟨_, rfl⟩
  rw [← hm] at hnum ⊢
  obtain ⟨hd, hhd⟩ : ∃ d, d = hndK k := ⟨_, rfl⟩
  obtain ⟨kb, hkb⟩ : ∃ d, d = kysK k := ⟨_, rfl⟩
  rw [← hhd, ← hkb]
  obtain ⟨w3, hw3⟩ : ∃ w3, w3 = w2.alloc (.cells #[.bool hd, .slice pp m m, .bool kb] 113) := ⟨_, rfl⟩
  obtain ⟨F, hF⟩ : ∃ F, F = w2.heap.size := ⟨_, rfl⟩
  have B3 : Below w2.heap.size w2 w3 := by rw [hw3]; exact below_alloc _ _
  have S3 : FS W P F (opR k key val old hnd set rt ri (.slice kp n kc) lo hi) #[.bool hd, .slice pp m m, .bool kb] (.slice pp m m) (numK k) w3 := by
    have hx := (Array.getElem?_eq_some_iff.1 HX1.out).1
    refine ⟨heap_below (heap_below HX1.out B2) B3, by rw [hw3, hF]; exact heap_alloc_new _ _, ?_, below_chain (below_chain HB1.out B2) B3, by rw [HP.out]; exact Nat.le_refl _, ?_⟩
    · rcases hnum with h | ⟨g, q1, q2, q3⟩
      · exact .inl h
      · exact .inr ⟨g, q1, by omega, heap_below q3 B3⟩
    · have := B2.size
      omega
  have HS3 := keepH S3
  have HW3 := keepH hw3
  have HFF := keepH hF
  have HM := keepH hm
  have HHD := keepH hhd
  have HKB := keepH hkb
  have hm3 : m ≤ 3 := by rw [hm]; exact HLE.out
  clear hnum B2 B3 S3 hw3 hF hm hhd hkb
  go_upto_region 2 with fail
  rw [← HW3.out, ← HFF.out]
  have c0 : w3.cell? ⟨P, 0, none⟩ = _ := HS3.out.cells rfl
  go_wp2_with fail
  refine (HWD.out w3 HS3.out.bel).mono ?_
  rintro e wx ⟨rfl, hwx⟩
  rw [hwx]
  clear c0 hwx
  obtain ⟨s0, hs0⟩ : ∃ s, s = mkS (opW k) := ⟨_, rfl⟩
  rw [← hs0]
  obtain ⟨w4, hw4⟩ : ∃ w4, w4 = w3.alloc (.cells #[.string s0] 9) := ⟨_, rfl⟩
  have HR4 : Hid (StR w3 [opW k] (.slice (some ⟨w3.heap.size, 0, none⟩) 1 1) w4) := keepH (by rw [hw4, hs0]; exact StR.one w3 w3 (Below.refl _ _) (opW k))
  have HW4 := keepH hw4
  clear hw4 hs0
  go_upto_region 3 with fail
  rw [← HW4.out]
  have f0 : w4.cell? ⟨F, 0, none⟩ = some (.bool hd) := cell_of (HS3.out.on HR4.out.bel).fld 0
  cases hd with
  | false =>
    have hkb0 : kb = false := by
      rw [HKB.out]
      have := HHD.out
      unfold hndK at this
      unfold kysK
      simp at this ⊢
      omega
    subst hkb0
    go_upto_region 5 with fail
    clear f0
    have f1 : w4.cell? ⟨F, 1, none⟩ = some (.slice pp m m) := cell_of (HS3.out.on HR4.out.bel).fld 1
    obtain ⟨pre, hpre⟩ : ∃ pre, pre = [opW k] := ⟨_, rfl⟩
    have HR5 : Hid (StR w3 pre (.slice (some ⟨w3.heap.size, 0, none⟩) 1 1) w4) := keepH (by rw [hpre]; exact HR4.out)
    have hpl : pre.length ≤ 2 := by rw [hpre]; simp
    have HPRE := keepH hpre
    clear hpre
    go_wp2_with fail
    clear f1
    go_loopw [7, 31] (fun v s wr => ∃ i : Nat, i ≤ m ∧ s = .int .i64 (i : Int) ∧ Hid (StR w3 (pre ++ ((numK k).take i).map (fun o => Lib.decDigits (numAt key val old lo hi o))) v wr)) (fun _ s _ => m - (intOf s).toNat)
    case atStart => exact ⟨0, by omega, rfl, keepH (by simpa using HR5.out)⟩
    case round =>
      obtain ⟨i, him, rfl, HR⟩ := hrel
      have HSR := keepH (HS3.out.on HR.out.bel)
      by_cases hlt : i < m
      · have t1 : (i : Int) < (m : Int) := by omega
        have t0 : (0 : Int) ≤ (i : Int) := by omega
        obtain ⟨o, ho⟩ : ∃ o, (numK k)[i]? = some o := ⟨(numK k)[i]'(by have := HM.out; omega), List.getElem?_eq_getElem _⟩
        obtain ⟨g, rfl, p0⟩ := HSR.out.ptr ho
        have p1 : wr.cell? ⟨P, o, none⟩ = _ := HSR.out.cells (HNC.out o (List.mem_of_getElem? ho))
        have hde := HDE.out o wr HSR.out.bel
        obtain ⟨nu, hnu⟩ : ∃ x, x = numAt key val old lo hi o := ⟨_, rfl⟩
        obtain ⟨ls, hls⟩ : ∃ ls, ls = pre ++ ((numK k).take i).map (fun o => Lib.decDigits (numAt key val old lo hi o)) := ⟨_, rfl⟩
        have HLN : Hid (pre ++ ((numK k).take (i + 1)).map (fun o => Lib.decDigits (numAt key val old lo hi o)) = ls ++ [Lib.decDigits nu]) := keepH (by rw [hls, hnu, List.take_add_one, ho]; simp)
        have hll : ls.length ≤ 6 := by rw [hls]; simp; omega
        have HR6 := keepH HR.out
        rw [← hls] at HR6
        rw [← hnu] at p1 hde
        obtain ⟨fl, hfl⟩ : ∃ fl, fl = ls.length := ⟨_, rfl⟩
        have hfl2 : fl ≤ 6 := by omega
        have HFL := keepH hfl
        have HDE2 := keepH hde
        clear hls hnu ho hll hfl hde
        go_wp2_with fail
        refine HDE2.out.mono ?_
        rintro e w6 ⟨rfl, D6⟩
        obtain ⟨sd, hsd⟩ : ∃ s, s = mkS (Lib.decDigits nu) := ⟨_, rfl⟩
        rw [← hsd]
        have HSD := keepH hsd
        have HR7 := keepH (HR6.out.on D6)
        have HRW : Hid (w6.ownsRow 0 9 1 u7 fl (strsRow ls)) := keepH (by rw [HFL.out]; exact HR7.out.row)
        have hi0 := HI.out
        clear D6 hsd p0 p1
        go_wp2_with (first | (at_builtin; refine wpList_append_own_at _ rfl (.tmp 35) (.tmp 40) 67 rfl 0 9 i0 (.string ⟨#[]⟩) 1 16 Tryz.underlying67 hi0 hz0 hz1 hz2 rfl (by decide) u7 fl (strsRow ls) rfl (HRW.out.alloc _) ⟨w6.heap.size, 0, none⟩ 1 1 [.string sd] rfl rfl (cells_newR _ _ rfl _ _) (by intro u hu; simp at hu; rcases hu with rfl; rfl) (by unfold maxLen; omega) (by omega) (Nat.zero_le _) ?_; intro v2 w9 r1 r2 r3 r4; have R1 := keepH r1; have R2 := keepH r2; have R4 := keepH r4; clear r1 r2 r3 r4) | go_in)
        have HNX := keepH (HR7.out.more (r := Lib.decDigits nu) (by rw [← HSD.out, ← HFL.out]; exact R1.out) R2.out R4.out)
        rw [← HLN.out] at HNX
        go_roundw
        case rel => exact ⟨i + 1, by omega, by first | rfl | go_num, HNX⟩
        case measure => simp [intOf]; omega
      · obtain rfl : i = m := by omega
        have t1 : ¬ (i : Int) < (i : Int) := by omega
        have hf := HR.out
        rw [HM.out, List.take_length] at hf
        obtain ⟨ls, hls⟩ : ∃ ls, ls = pre ++ (numK k).map (fun o => Lib.decDigits (numAt key val old lo hi o)) := ⟨_, rfl⟩
        rw [← hls] at hf
        have HF2 := keepH hf
        have hll : ls.length ≤ 6 := by rw [hls]; have := HLE.out; simp; omega
        have HLS : Hid (ls = ([opW k]) ++ (numK k).map (fun o => Lib.decDigits (numAt key val old lo hi o))) := keepH (by rw [hls, HPRE.out])
        have f2 : wr.cell? ⟨F, 2, none⟩ = some (.bool false) := cell_of HSR.out.fld 2
        clear hf hls
        have hLS : ls = partsO k key val old hnd set rt ri keys lo hi := by rw [HLS.out]; unfold partsO; rw [← HHD.out, ← HKB.out]; simp
        have HLS2 := keepH hLS
        clear hLS
        go_upto_region 16 with fail
        clear f2
        obtain ⟨g9, c9, hv9, hg9, hc9, hcl9⟩ := HF2.out.slice (by rw [HLS2.out]; unfold partsO; simp)
        have hjn := HJN.out g9 c9 _ wr hcl9 hg9 (by have := HTL.out; have := HN.out; rw [HLS2.out]; omega) hc9 (by rw [HLS2.out]; have := join_len _ HTE.out; have := HTL.out; have := HN.out; omega)
        rw [HLS2.out] at hjn hv9
        rw [show Lib.join (partsO k key val old hnd set rt ri keys lo hi) [32] = TT from HTT.out.symm] at hjn
        subst hv9
        have HJ2 := keepH hjn
        have HBZ := keepH (below_chain HS3.out.bel HF2.out.bel)
        obtain ⟨np, hnp⟩ : ∃ np, np = (partsO k key val old hnd set rt ri keys lo hi).length := ⟨_, rfl⟩
        rw [← hnp] at HJ2 ⊢
        clear hjn hcl9 hc9 hg9 hnp
        go_wp2_with fail
        refine HJ2.out.mono ?_
        rintro e wz ⟨rfl, Dz⟩
        have HDZ := keepH (below_chain HBZ.out Dz)
        clear Dz
        go_wp2_with fail
        go_ret
        exact ⟨by simp, HDZ.out⟩
  | true =>
    have c0 : w4.cell? ⟨P, 0, none⟩ = _ := (HS3.out.on HR4.out.bel).cells rfl
    have c1 : w4.cell? ⟨P, 1, none⟩ = _ := (HS3.out.on HR4.out.bel).cells rfl
    have c2 : w4.cell? ⟨P, 2, none⟩ = _ := (HS3.out.on HR4.out.bel).cells rfl
    have c3 : w4.cell? ⟨P, 3, none⟩ = _ := (HS3.out.on HR4.out.bel).cells rfl
    have c4 : w4.cell? ⟨P, 4, none⟩ = _ := (HS3.out.on HR4.out.bel).cells rfl
    have c5 : w4.cell? ⟨P, 5, none⟩ = _ := (HS3.out.on HR4.out.bel).cells rfl
    have c6 : w4.cell? ⟨P, 6, none⟩ = _ := (HS3.out.on HR4.out.bel).cells rfl
    have c7 : w4.cell? ⟨P, 7, none⟩ = _ := (HS3.out.on HR4.out.bel).cells rfl
    have c8 : w4.cell? ⟨P, 8, none⟩ = _ := (HS3.out.on HR4.out.bel).cells rfl
    have c9 : w4.cell? ⟨P, 9, none⟩ = _ := (HS3.out.on HR4.out.bel).cells rfl
    have c10 : w4.cell? ⟨P, 10, none⟩ = _ := (HS3.out.on HR4.out.bel).cells rfl
    go_wp2_with fail
    refine (HPH.out w4 (below_chain HS3.out.bel HR4.out.bel)).mono ?_
    rintro e w5 ⟨rfl, D5⟩
    obtain ⟨sh, hsh⟩ : ∃ s, s = mkS (hText hnd set rt ri) := ⟨_, rfl⟩
    rw [← hsh]
    have HSH := keepH hsh
    have HR5a := keepH (HR4.out.on D5)
    have hi0 := HI.out
    have HRWa : Hid (w5.ownsRow 0 9 1 (.slice (some ⟨w3.heap.size, 0, none⟩) 1 1) 1 (strsRow [opW k])) := keepH HR5a.out.row
    clear D5 hsh f0 c0 c1 c2 c3 c4 c5 c6 c7 c8 c9 c10
    go_upto_region 5 with (first | (at_builtin; refine wpList_append_own_at _ rfl (.tmp 23) (.tmp 26) 67 rfl 0 9 i0 (.string ⟨#[]⟩) 1 16 Tryz.underlying67 hi0 hz0 hz1 hz2 rfl (by decide) (.slice (some ⟨w3.heap.size, 0, none⟩) 1 1) 1 (strsRow [opW k]) rfl (HRWa.out.alloc _) ⟨w5.heap.size, 0, none⟩ 1 1 [.string sh] rfl rfl (cells_newR _ _ rfl _ _) (by intro u hu; simp at hu; rcases hu with rfl; rfl) (by unfold maxLen; omega) (by omega) (Nat.zero_le _) ?_; intro v2 w9 r1 r2 r3 r4; have R1 := keepH r1; have R2 := keepH r2; have R4 := keepH r4; clear r1 r2 r3 r4) | go_in)
    have HR5b := keepH (HR5a.out.more (r := hText hnd set rt ri) (by rw [← HSH.out]; exact R1.out) R2.out R4.out)
    clear hi0
    cases kb with
    | false =>
      have f1 : w9.cell? ⟨F, 1, none⟩ = some (.slice pp m m) := cell_of (HS3.out.on HR5b.out.bel).fld 1
      obtain ⟨pre, hpre⟩ : ∃ pre, pre = [opW k] ++ [hText hnd set rt ri] := ⟨_, rfl⟩
      have HR5 : Hid (StR w3 pre (v2) w9) := keepH (by rw [hpre]; exact HR5b.out)
      have hpl : pre.length ≤ 2 := by rw [hpre]; simp
      have HPRE := keepH hpre
      clear hpre
      go_wp2_with fail
      clear f1
      go_loopw [7, 31] (fun v s wr => ∃ i : Nat, i ≤ m ∧ s = .int .i64 (i : Int) ∧ Hid (StR w3 (pre ++ ((numK k).take i).map (fun o => Lib.decDigits (numAt key val old lo hi o))) v wr)) (fun _ s _ => m - (intOf s).toNat)
      case atStart => exact ⟨0, by omega, rfl, keepH (by simpa using HR5.out)⟩
      case round =>
        obtain ⟨i, him, rfl, HR⟩ := hrel
        have HSR := keepH (HS3.out.on HR.out.bel)
        by_cases hlt : i < m
        · have t1 : (i : Int) < (m : Int) := by omega
          have t0 : (0 : Int) ≤ (i : Int) := by omega
          obtain ⟨o, ho⟩ : ∃ o, (numK k)[i]? = some o := ⟨(numK k)[i]'(by have := HM.out; omega), List.getElem?_eq_getElem _⟩
          obtain ⟨g, rfl, p0⟩ := HSR.out.ptr ho
          have p1 : wr.cell? ⟨P, o, none⟩ = _ := HSR.out.cells (HNC.out o (List.mem_of_getElem? ho))
          have hde := HDE.out o wr HSR.out.bel
          obtain ⟨nu, hnu⟩ : ∃ x, x = numAt key val old lo hi o := ⟨_, rfl⟩
          obtain ⟨ls, hls⟩ : ∃ ls, ls = pre ++ ((numK k).take i).map (fun o => Lib.decDigits (numAt key val old lo hi o)) := ⟨_, rfl⟩
          have HLN : Hid (pre ++ ((numK k).take (i + 1)).map (fun o => Lib.decDigits (numAt key val old lo hi o)) = ls ++ [Lib.decDigits nu]) := keepH (by rw [hls, hnu, List.take_add_one, ho]; simp)
          have hll : ls.length ≤ 6 := by rw [hls]; simp; omega
          have HR6 := keepH HR.out
          rw [← hls] at HR6
          rw [← hnu] at p1 hde
          obtain ⟨fl, hfl⟩ : ∃ fl, fl = ls.length := ⟨_, rfl⟩
          have hfl2 : fl ≤ 6 := by omega
          have HFL := keepH hfl
          have HDE2 := keepH hde
          clear hls hnu ho hll hfl hde
          go_wp2_with fail
          refine HDE2.out.mono ?_
          rintro e w6 ⟨rfl, D6⟩
          obtain ⟨sd, hsd⟩ : ∃ s, s = mkS (Lib.decDigits nu) := ⟨_, rfl⟩
          rw [← hsd]
          have HSD := keepH hsd
          have HR7 := keepH (HR6.out.on D6)
          have HRW : Hid (w6.ownsRow 0 9 1 u7 fl (strsRow ls)) := keepH (by rw [HFL.out]; exact HR7.out.row)
          have hi0 := HI.out
          clear D6 hsd p0 p1
          go_wp2_with (first | (at_builtin; refine wpList_append_own_at _ rfl (.tmp 35) (.tmp 40) 67 rfl 0 9 i0 (.string ⟨#[]⟩) 1 16 Tryz.underlying67 hi0 hz0 hz1 hz2 rfl (by decide) u7 fl (strsRow ls) rfl (HRW.out.alloc _) ⟨w6.heap.size, 0, none⟩ 1 1 [.string sd] rfl rfl (cells_newR _ _ rfl _ _) (by intro u hu; simp at hu; rcases hu with rfl; rfl) (by unfold maxLen; omega) (by omega) (Nat.zero_le _) ?_; intro v2 w9 r1 r2 r3 r4; have R1 := keepH r1; have R2 := keepH r2; have R4 := keepH r4; clear r1 r2 r3 r4) | go_in)
          have HNX := keepH (HR7.out.more (r := Lib.decDigits nu) (by rw [← HSD.out, ← HFL.out]; exact R1.out) R2.out R4.out)
          rw [← HLN.out] at HNX
          go_roundw
          case rel => exact ⟨i + 1, by omega, by first | rfl | go_num, HNX⟩
          case measure => simp [intOf]; omega
        · obtain rfl : i = m := by omega
          have t1 : ¬ (i : Int) < (i : Int) := by omega
          have hf := HR.out
          rw [HM.out, List.take_length] at hf
          obtain ⟨ls, hls⟩ : ∃ ls, ls = pre ++ (numK k).map (fun o => Lib.decDigits (numAt key val old lo hi o)) := ⟨_, rfl⟩
          rw [← hls] at hf
          have HF2 := keepH hf
          have hll : ls.length ≤ 6 := by rw [hls]; have := HLE.out; simp; omega
          have HLS : Hid (ls = ([opW k] ++ [hText hnd set rt ri]) ++ (numK k).map (fun o => Lib.decDigits (numAt key val old lo hi o))) := keepH (by rw [hls, HPRE.out])
          have f2 : wr.cell? ⟨F, 2, none⟩ = some (.bool false) := cell_of HSR.out.fld 2
          clear hf hls
          have hLS : ls = partsO k key val old hnd set rt ri keys lo hi := by rw [HLS.out]; unfold partsO; rw [← HHD.out, ← HKB.out]; simp
          have HLS2 := keepH hLS
          clear hLS
          go_upto_region 16 with fail
          clear f2
          obtain ⟨g9, c9, hv9, hg9, hc9, hcl9⟩ := HF2.out.slice (by rw [HLS2.out]; unfold partsO; simp)
          have hjn := HJN.out g9 c9 _ wr hcl9 hg9 (by have := HTL.out; have := HN.out; rw [HLS2.out]; omega) hc9 (by rw [HLS2.out]; have := join_len _ HTE.out; have := HTL.out; have := HN.out; omega)
          rw [HLS2.out] at hjn hv9
          rw [show Lib.join (partsO k key val old hnd set rt ri keys lo hi) [32] = TT from HTT.out.symm] at hjn
          subst hv9
          have HJ2 := keepH hjn
          have HBZ := keepH (below_chain HS3.out.bel HF2.out.bel)
          obtain ⟨np, hnp⟩ : ∃ np, np = (partsO k key val old hnd set rt ri keys lo hi).length := ⟨_, rfl⟩
          rw [← hnp] at HJ2 ⊢
          clear hjn hcl9 hc9 hg9 hnp
          go_wp2_with fail
          refine HJ2.out.mono ?_
          rintro e wz ⟨rfl, Dz⟩
          have HDZ := keepH (below_chain HBZ.out Dz)
          clear Dz
          go_wp2_with fail
          go_ret
          exact ⟨by simp, HDZ.out⟩
    | true =>
      have f1 : w9.cell? ⟨F, 1, none⟩ = some (.slice pp m m) := cell_of (HS3.out.on HR5b.out.bel).fld 1
      obtain ⟨pre, hpre⟩ : ∃ pre, pre = [opW k] ++ [hText hnd set rt ri] := ⟨_, rfl⟩
      have HR5 : Hid (StR w3 pre (v2) w9) := keepH (by rw [hpre]; exact HR5b.out)
      have hpl : pre.length ≤ 2 := by rw [hpre]; simp
      have HPRE := keepH hpre
      clear hpre
      go_wp2_with fail
      clear f1
      go_loopw [7, 31] (fun v s wr => ∃ i : Nat, i ≤ m ∧ s = .int .i64 (i : Int) ∧ Hid (StR w3 (pre ++ ((numK k).take i).map (fun o => Lib.decDigits (numAt key val old lo hi o))) v wr)) (fun _ s _ => m - (intOf s).toNat)
      case atStart => exact ⟨0, by omega, rfl, keepH (by simpa using HR5.out)⟩
      case round =>
        obtain ⟨i, him, rfl, HR⟩ := hrel
        have HSR := keepH (HS3.out.on HR.out.bel)
        by_cases hlt : i < m
        · have t1 : (i : Int) < (m : Int) := by omega
          have t0 : (0 : Int) ≤ (i : Int) := by omega
          obtain ⟨o, ho⟩ : ∃ o, (numK k)[i]? = some o := ⟨(numK k)[i]'(by have := HM.out; omega), List.getElem?_eq_getElem _⟩
          obtain ⟨g, rfl, p0⟩ := HSR.out.ptr ho
          have p1 : wr.cell? ⟨P, o, none⟩ = _ := HSR.out.cells (HNC.out o (List.mem_of_getElem? ho))
          have hde := HDE.out o wr HSR.out.bel
          obtain ⟨nu, hnu⟩ : ∃ x, x = numAt key val old lo hi o := ⟨_, rfl⟩
          obtain ⟨ls, hls⟩ : ∃ ls, ls = pre ++ ((numK k).take i).map (fun o => Lib.decDigits (numAt key val old lo hi o)) := ⟨_, rfl⟩
          have HLN : Hid (pre ++ ((numK k).take (i + 1)).map (fun o => Lib.decDigits (numAt key val old lo hi o)) = ls ++ [Lib.decDigits nu]) := keepH (by rw [hls, hnu, List.take_add_one, ho]; simp)
          have hll : ls.length ≤ 6 := by rw [hls]; simp; omega
          have HR6 := keepH HR.out
          rw [← hls] at HR6
          rw [← hnu] at p1 hde
          obtain ⟨fl, hfl⟩ : ∃ fl, fl = ls.length := ⟨_, rfl⟩
          have hfl2 : fl ≤ 6 := by omega
          have HFL := keepH hfl
          have HDE2 := keepH hde
          clear hls hnu ho hll hfl hde
          go_wp2_with fail
          refine HDE2.out.mono ?_
          rintro e w6 ⟨rfl, D6⟩
          obtain ⟨sd, hsd⟩ : ∃ s, s = mkS (Lib.decDigits nu) := ⟨_, rfl⟩
          rw [← hsd]
          have HSD := keepH hsd
          have HR7 := keepH (HR6.out.on D6)
          have HRW : Hid (w6.ownsRow 0 9 1 u7 fl (strsRow ls)) := keepH (by rw [HFL.out]; exact HR7.out.row)
          have hi0 := HI.out
          clear D6 hsd p0 p1
          go_wp2_with (first | (at_builtin; refine wpList_append_own_at _ rfl (.tmp 35) (.tmp 40) 67 rfl 0 9 i0 (.string ⟨#[]⟩) 1 16 Tryz.underlying67 hi0 hz0 hz1 hz2 rfl (by decide) u7 fl (strsRow ls) rfl (HRW.out.alloc _) ⟨w6.heap.size, 0, none⟩ 1 1 [.string sd] rfl rfl (cells_newR _ _ rfl _ _) (by intro u hu; simp at hu; rcases hu with rfl; rfl) (by unfold maxLen; omega) (by omega) (Nat.zero_le _) ?_; intro v2 w9 r1 r2 r3 r4; have R1 := keepH r1; have R2 := keepH r2; have R4 := keepH r4; clear r1 r2 r3 r4) | go_in)
          have HNX := keepH (HR7.out.more (r := Lib.decDigits nu) (by rw [← HSD.out, ← HFL.out]; exact R1.out) R2.out R4.out)
          rw [← HLN.out] at HNX
          go_roundw
          case rel => exact ⟨i + 1, by omega, by first | rfl | go_num, HNX⟩
          case measure => simp [intOf]; omega
        · obtain rfl : i = m := by omega
          have t1 : ¬ (i : Int) < (i : Int) := by omega
          have hf := HR.out
          rw [HM.out, List.take_length] at hf
          obtain ⟨ls, hls⟩ : ∃ ls, ls = pre ++ (numK k).map (fun o => Lib.decDigits (numAt key val old lo hi o)) := ⟨_, rfl⟩
          rw [← hls] at hf
          have HF2 := keepH hf
          have hll : ls.length ≤ 6 := by rw [hls]; have := HLE.out; simp; omega
          have HLS : Hid (ls = ([opW k] ++ [hText hnd set rt ri]) ++ (numK k).map (fun o => Lib.decDigits (numAt key val old lo hi o))) := keepH (by rw [hls, HPRE.out])
          have f2 : wr.cell? ⟨F, 2, none⟩ = some (.bool true) := cell_of HSR.out.fld 2
          clear hf hls
          have p8 : wr.cell? ⟨P, 8, none⟩ = some (.slice kp n kc) := HSR.out.cells rfl
          go_wp2_with fail
          clear f2 p8
          go_loopw [7, 48] (fun v s wq => ∃ j : Nat, j ≤ n ∧ s = .int .i64 (j : Int) ∧ Hid (StR w3 (ls ++ (keys.take j).map Lib.decDigits) v wq)) (fun _ s _ => n - (intOf s).toNat)
          case atStart => exact ⟨0, by omega, rfl, keepH (by simpa using HF2.out)⟩
          case round =>
            obtain ⟨j, hjm, rfl, HQ⟩ := hrel
            by_cases hlt : j < n
            · have t2 : (j : Int) < (n : Int) := by omega
              have t0 : (0 : Int) ≤ (j : Int) := by omega
              obtain ⟨x, hx⟩ : ∃ x, keys[j]? = some x := ⟨keys[j]'(by have := HN.out; omega), List.getElem?_eq_getElem _⟩
              obtain ⟨bk, off, rfl, hbk, p0⟩ := (HKR.out.on (below_chain HS3.out.bel HQ.out.bel)).get j x hx
              have hde := HDK.out x (List.mem_of_getElem? hx) wr (below_chain HS3.out.bel HQ.out.bel)
              obtain ⟨lq, hlq⟩ : ∃ lq, lq = ls ++ (keys.take j).map Lib.decDigits := ⟨_, rfl⟩
              have HLN : Hid (ls ++ (keys.take (j + 1)).map Lib.decDigits = lq ++ [Lib.decDigits x]) := keepH (by rw [hlq, List.take_add_one, hx]; simp)
              have hll2 : lq.length ≤ 10000006 := by rw [hlq]; simp; omega
              have HR6 := keepH HQ.out
              rw [← hlq] at HR6
              obtain ⟨fl, hfl⟩ : ∃ fl, fl = lq.length := ⟨_, rfl⟩
              have hfl2 : fl ≤ 10000006 := by omega
              have HFL := keepH hfl
              have HDE2 := keepH hde
              clear hlq hx hll2 hfl hde
              go_wp2_with fail
              refine HDE2.out.mono ?_
              rintro e w6 ⟨rfl, D6⟩
              obtain ⟨sd, hsd⟩ : ∃ s, s = mkS (Lib.decDigits x) := ⟨_, rfl⟩
              rw [← hsd]
              have HSD := keepH hsd
              have HR7 := keepH (HR6.out.on D6)
              have HRW : Hid (w6.ownsRow 0 9 1 u7 fl (strsRow lq)) := keepH (by rw [HFL.out]; exact HR7.out.row)
              have hi0 := HI.out
              clear D6 hsd p0
              go_wp2_with (first | (at_builtin; refine wpList_append_own_at _ rfl (.tmp 52) (.tmp 55) 67 rfl 0 9 i0 (.string ⟨#[]⟩) 1 16 Tryz.underlying67 hi0 hz0 hz1 hz2 rfl (by decide) u7 fl (strsRow lq) rfl (HRW.out.alloc _) ⟨w6.heap.size, 0, none⟩ 1 1 [.string sd] rfl rfl (cells_newR _ _ rfl _ _) (by intro u hu; simp at hu; rcases hu with rfl; rfl) (by unfold maxLen; omega) (by omega) (Nat.zero_le _) ?_; intro v2 w9 r1 r2 r3 r4; have R1 := keepH r1; have R2 := keepH r2; have R4 := keepH r4; clear r1 r2 r3 r4) | go_in)
              have HNX := keepH (HR7.out.more (r := Lib.decDigits x) (by rw [← HSD.out, ← HFL.out]; exact R1.out) R2.out R4.out)
              rw [← HLN.out] at HNX
              go_roundw
              case rel => exact ⟨j + 1, by omega, by first | rfl | go_num, HNX⟩
              case measure => simp [intOf]; omega
            · obtain rfl : j = n := by omega
              have t2 : ¬ (j : Int) < (j : Int) := by omega
              have hg := HQ.out
              rw [HN.out, List.take_length] at hg
              have HG := keepH hg
              clear hg
              have hLS : ls ++ keys.map Lib.decDigits = partsO k key val old hnd set rt ri keys lo hi := by rw [HLS.out]; unfold partsO; rw [← HHD.out, ← HKB.out]; simp
              have HLS2 := keepH hLS
              clear hLS
              go_upto_region 16 with fail
              obtain ⟨g9, c9, hv9, hg9, hc9, hcl9⟩ := HG.out.slice (by rw [HLS2.out]; unfold partsO; simp)
              have hjn := HJN.out g9 c9 _ wr hcl9 hg9 (by have := HTL.out; have := HN.out; rw [HLS2.out]; omega) hc9 (by rw [HLS2.out]; have := join_len _ HTE.out; have := HTL.out; have := HN.out; omega)
              rw [HLS2.out] at hjn hv9
              rw [show Lib.join (partsO k key val old hnd set rt ri keys lo hi) [32] = TT from HTT.out.symm] at hjn
              subst hv9
              have HJ2 := keepH hjn
              have HBZ := keepH (below_chain HS3.out.bel HG.out.bel)
              obtain ⟨np, hnp⟩ : ∃ np, np = (partsO k key val old hnd set rt ri keys lo hi).length := ⟨_, rfl⟩
              rw [← hnp] at HJ2 ⊢
              clear hjn hcl9 hc9 hg9 hnp
              go_wp2_with fail
              refine HJ2.out.mono ?_
              rintro e wz ⟨rfl, Dz⟩
              have HDZ := keepH (below_chain HBZ.out Dz)
              clear Dz
              go_wp2_with fail
              go_ret
              exact ⟨by simp, HDZ.out⟩
end Go.Proofs.YtmmaniolaljjlaaGreatDoor
/- PrintOp, by the program. (mkSci.py) -/
namespace Go.Proofs.YtmmaniolaljjlaaGreatDoor
open Go.RowKit Go.Shelf
set_option linter.unusedVariables false

theorem fault_has {k key val old hnd : Nat} {set : Bool} {rt ri : Int} {kp : Option Addr} {n kc lo hi : Nat} (h : faultN k key val old hnd set rt ri kp n kc lo hi = 0) : hasK k = true := by
  unfold faultN at h
  cases e : hasK k with
  | true => rfl
  | false => rw [if_pos e] at h; simp at h
set_option maxRecDepth 100000 in
set_option maxHeartbeats 4000000 in
theorem printOp_any (k key val old hnd : Nat) (set : Bool) (rt ri : Int) (kp : Option Addr) (kc lo hi : Nat) (keys : List Nat) (hk : k < 256) (h1 : isU key) (h2 : isU val) (h3 : isU old) (h4 : isU hnd) (h5 : isU lo) (h6 : isU hi) (ha : isI rt) (hb : isI ri) (hks : ∀ u ∈ keys, isU u) (hkl : keys.length ≤ 10000000) (W : World) (hW : Wd W) (T : Tb W) (hK : KRd W kp keys) :
    Calls Tryz.prog 7 #[.agg (opR k key val old hnd set rt ri (.slice kp keys.length kc) lo hi)] W fun e W' => ∃ E : Nat, E = faultN k key val old hnd set rt ri kp keys.length kc lo hi ∧ e = .returned (.tuple #[.string (mkS (if E = 0 then opT k key val old hnd set rt ri keys lo hi else [])), .int .i64 (E : Int)]) ∧ Below W.heap.size W W' := by
  have HFA := keepH (fun b w (hV : IsVoc w b) (hbe : Below W.heap.size W w) => fault_any b k key val old hnd set rt ri kp keys.length kc lo hi hk h1 h2 h3 h4 h5 h6 ha hb w hV (hW.on hbe))
  have HPR := keepH (fun b w (hh : hasK k = true) (hV : IsVoc w b) (hbe : Below W.heap.size W w) => print_any b k key val old hnd set rt ri kp kc lo hi keys hk hh h1 h2 h3 h4 h5 h6 ha hb hks hkl w hV (hW.on hbe) (T.on hbe) (hK.on hbe))
  obtain ⟨n, hn⟩ : ∃ n, n = keys.length := ⟨_, rfl⟩
  rw [← hn] at HFA HPR ⊢
  obtain ⟨w1, hw1⟩ : ∃ w1, w1 = W.alloc (.cells (opR k key val old hnd set rt ri (.slice kp n kc) lo hi) 28) := ⟨_, rfl⟩
  obtain ⟨P, hP⟩ : ∃ P, P = W.heap.size := ⟨_, rfl⟩
  have B1 : Below W.heap.size W w1 := by rw [hw1]; exact below_alloc _ _
  have X1 : w1.heap[P]? = some (.cells (opR k key val old hnd set rt ri (.slice kp n kc) lo hi) 28 (0, 0)) := by rw [hw1, hP]; exact heap_alloc_new _ _
  have HW1 := keepH hw1
  have HP := keepH hP
  have HB1 := keepH B1
  have HX1 := keepH X1
  obtain ⟨E, hE⟩ : ∃ E, E = faultN k key val old hnd set rt ri kp n kc lo hi := ⟨_, rfl⟩
  have HE := keepH hE
  rw [← hE] at HFA
  clear hw1 hP B1 X1 hW T hK h1 h2 h3 h4 h5 h6 ha hb hk hks hkl hn hE
  go_enter Tryz.func7, Tryz.ntmps7
  go_upto_region 1 with fail
  rw [← HW1.out, ← HP.out]
  go_wp2_with fail
  refine (voc_new w1).mono ?_
  rintro e w2 ⟨rfl, hV, B2⟩
  have HX2 := keepH (heap_below HX1.out B2)
  have HB2 := keepH (below_chain HB1.out B2)
  have HV := keepH hV
  obtain ⟨b, hbb⟩ : ∃ b, b = w1.heap.size := ⟨_, rfl⟩
  rw [← hbb] at HV ⊢
  clear hV B2 hbb
  have c0 : w2.cell? ⟨P, 0, none⟩ = _ := cell_of HX2.out 0
  have c1 : w2.cell? ⟨P, 1, none⟩ = _ := cell_of HX2.out 1
  have c2 : w2.cell? ⟨P, 2, none⟩ = _ := cell_of HX2.out 2
  have c3 : w2.cell? ⟨P, 3, none⟩ = _ := cell_of HX2.out 3
  have c4 : w2.cell? ⟨P, 4, none⟩ = _ := cell_of HX2.out 4
  have c5 : w2.cell? ⟨P, 5, none⟩ = _ := cell_of HX2.out 5
  have c6 : w2.cell? ⟨P, 6, none⟩ = _ := cell_of HX2.out 6
  have c7 : w2.cell? ⟨P, 7, none⟩ = _ := cell_of HX2.out 7
  have c8 : w2.cell? ⟨P, 8, none⟩ = _ := cell_of HX2.out 8
  have c9 : w2.cell? ⟨P, 9, none⟩ = _ := cell_of HX2.out 9
  have c10 : w2.cell? ⟨P, 10, none⟩ = _ := cell_of HX2.out 10
  go_wp2_with fail
  refine (HFA.out b w2 HV.out HB2.out).mono ?_
  rintro e w3 ⟨rfl, B3⟩
  have X3 := heap_below HX2.out B3
  have HB3 := keepH (below_chain HB2.out B3)
  have HV3 := keepH (HV.out.on B3)
  clear B3 c0 c1 c2 c3 c4 c5 c6 c7 c8 c9 c10
  by_cases h0 : E = 0
  · have hh := fault_has (HE.out.symm.trans h0)
    have HQ := keepH (HPR.out b w3 hh HV3.out HB3.out)
    subst h0
    have c0 : w3.cell? ⟨P, 0, none⟩ = _ := cell_of X3 0
    have c1 : w3.cell? ⟨P, 1, none⟩ = _ := cell_of X3 1
    have c2 : w3.cell? ⟨P, 2, none⟩ = _ := cell_of X3 2
    have c3 : w3.cell? ⟨P, 3, none⟩ = _ := cell_of X3 3
    have c4 : w3.cell? ⟨P, 4, none⟩ = _ := cell_of X3 4
    have c5 : w3.cell? ⟨P, 5, none⟩ = _ := cell_of X3 5
    have c6 : w3.cell? ⟨P, 6, none⟩ = _ := cell_of X3 6
    have c7 : w3.cell? ⟨P, 7, none⟩ = _ := cell_of X3 7
    have c8 : w3.cell? ⟨P, 8, none⟩ = _ := cell_of X3 8
    have c9 : w3.cell? ⟨P, 9, none⟩ = _ := cell_of X3 9
    have c10 : w3.cell? ⟨P, 10, none⟩ = _ := cell_of X3 10
    obtain ⟨TT, hTT⟩ : ∃ TT, TT = mkS (opT k key val old hnd set rt ri keys lo hi) := ⟨_, rfl⟩
    rw [← hTT] at HQ
    have HTT := keepH hTT
    clear X3 hh hTT
    go_wp2_with fail
    refine HQ.out.mono ?_
    rintro e w4 ⟨rfl, B4⟩
    have HB4 := keepH (below_chain HB3.out B4)
    clear B4
    go_wp2_with fail
    go_ret2
    exact ⟨0, HE.out, by rw [HTT.out]; simp, HB4.out⟩
  · have t0 : ¬ ((E : Int) = 0) := by omega
    have u0 : ((E : Int) != 0) = true := by simpa using t0
    clear X3
    go_wp2_with fail
    go_ret2
    exact ⟨E, HE.out, by rw [if_neg h0]; simp, HB3.out⟩
end Go.Proofs.YtmmaniolaljjlaaGreatDoor
/- The kind with a word, by the program. (mkScj.py) -/
namespace Go.Proofs.YtmmaniolaljjlaaGreatDoor
open Go.RowKit Go.Shelf
set_option linter.unusedVariables false

theorem beq_mkS2 (a b : List UInt8) : ((mkS a).toList == (mkS b).toList) = decide (a = b) := by
  rw [mkS_toList, mkS_toList, Bool.eq_iff_iff]
  simp
theorem opW_inj : ∀ (j k : Nat), hasK j = true → hasK k = true → opW j = opW k → j = k := by
  intro j k hj hk e
  simp [hasK] at hj hk
  have h1 : j = 1 ∨ j = 2 ∨ j = 3 ∨ j = 4 ∨ j = 5 ∨ j = 6 ∨ j = 7 ∨ j = 8 ∨ j = 9 ∨ j = 10 := by omega
  have h2 : k = 1 ∨ k = 2 ∨ k = 3 ∨ k = 4 ∨ k = 5 ∨ k = 6 ∨ k = 7 ∨ k = 8 ∨ k = 9 ∨ k = 10 := by omega
  rcases h1 with rfl | rfl | rfl | rfl | rfl | rfl | rfl | rfl | rfl | rfl <;> rcases h2 with rfl | rfl | rfl | rfl | rfl | rfl | rfl | rfl | rfl | rfl <;> first | rfl | (exfalso; revert e; decide)
theorem wpList_index_run {P : Program} {ops : Array Oper} {rest : List Oper} {o : Oper} {a : Act} {w : World} {Q : Exit → Act → World → Prop} (hgd : o.guard = none) (t : TypeId) (x y : Operand) (ho : o.op = .index t x y) (v : Value)
    (hr : (Instr.index t (a.eval x) (a.eval y)).run P w = .ok v w) (h : wpList P ops Q rest (a.put o.dst v) w) : wpList P ops Q (o :: rest) a w := by
  refine wpList_plain hgd fun K hK => ?_
  unfold Oper.wp execOp
  simp only [ho, Sem.run_bind, hr, Result.andThen_ok, Sem.run_pure]
  exact hK _ _ h
def KindQ (t : List UInt8) (e : Ending) : Prop := (∃ k, hasK k = true ∧ t = opW k ∧ e = .returned (.tuple #[.int .u8 (k : Int), .bool true])) ∨ ((∀ k, hasK k = true → t ≠ opW k) ∧ e = .returned (.tuple #[.int .u8 0, .bool false]))
set_option maxRecDepth 100000 in
set_option maxHeartbeats 4000000 in
theorem kindOf_any (t : List UInt8) (W : World) (hW : Wd W) : Calls Tryz.prog 75 #[.string (mkS t)] W fun e W' => KindQ t e ∧ W' = W := by
  have c0 := hW.cell 0 (by omega)
  have e0 := beq_mkS2 (opW 0) t
  obtain ⟨s0, h0⟩ : ∃ s, s = mkS (opW 0) := ⟨_, rfl⟩
  rw [← h0] at c0 e0
  have z0 : s0.toList.isEmpty = true := by rw [h0, mkS_toList]; rfl
  have c1 := hW.cell 1 (by omega)
  have e1 := beq_mkS2 (opW 1) t
  obtain ⟨s1, h1⟩ : ∃ s, s = mkS (opW 1) := ⟨_, rfl⟩
  rw [← h1] at c1 e1
  have z1 : s1.toList.isEmpty = false := by rw [h1, mkS_toList]; rfl
  have c2 := hW.cell 2 (by omega)
  have e2 := beq_mkS2 (opW 2) t
  obtain ⟨s2, h2⟩ : ∃ s, s = mkS (opW 2) := ⟨_, rfl⟩
  rw [← h2] at c2 e2
  have z2 : s2.toList.isEmpty = false := by rw [h2, mkS_toList]; rfl
  have c3 := hW.cell 3 (by omega)
  have e3 := beq_mkS2 (opW 3) t
  obtain ⟨s3, h3⟩ : ∃ s, s = mkS (opW 3) := ⟨_, rfl⟩
  rw [← h3] at c3 e3
  have z3 : s3.toList.isEmpty = false := by rw [h3, mkS_toList]; rfl
  have c4 := hW.cell 4 (by omega)
  have e4 := beq_mkS2 (opW 4) t
  obtain ⟨s4, h4⟩ : ∃ s, s = mkS (opW 4) := ⟨_, rfl⟩
  rw [← h4] at c4 e4
  have z4 : s4.toList.isEmpty = false := by rw [h4, mkS_toList]; rfl
  have c5 := hW.cell 5 (by omega)
  have e5 := beq_mkS2 (opW 5) t
  obtain ⟨s5, h5⟩ : ∃ s, s = mkS (opW 5) := ⟨_, rfl⟩
  rw [← h5] at c5 e5
  have z5 : s5.toList.isEmpty = false := by rw [h5, mkS_toList]; rfl
  have c6 := hW.cell 6 (by omega)
  have e6 := beq_mkS2 (opW 6) t
  obtain ⟨s6, h6⟩ : ∃ s, s = mkS (opW 6) := ⟨_, rfl⟩
  rw [← h6] at c6 e6
  have z6 : s6.toList.isEmpty = false := by rw [h6, mkS_toList]; rfl
  have c7 := hW.cell 7 (by omega)
  have e7 := beq_mkS2 (opW 7) t
  obtain ⟨s7, h7⟩ : ∃ s, s = mkS (opW 7) := ⟨_, rfl⟩
  rw [← h7] at c7 e7
  have z7 : s7.toList.isEmpty = false := by rw [h7, mkS_toList]; rfl
  have c8 := hW.cell 8 (by omega)
  have e8 := beq_mkS2 (opW 8) t
  obtain ⟨s8, h8⟩ : ∃ s, s = mkS (opW 8) := ⟨_, rfl⟩
  rw [← h8] at c8 e8
  have z8 : s8.toList.isEmpty = false := by rw [h8, mkS_toList]; rfl
  have c9 := hW.cell 9 (by omega)
  have e9 := beq_mkS2 (opW 9) t
  obtain ⟨s9, h9⟩ : ∃ s, s = mkS (opW 9) := ⟨_, rfl⟩
  rw [← h9] at c9 e9
  have z9 : s9.toList.isEmpty = false := by rw [h9, mkS_toList]; rfl
  have c10 := hW.cell 10 (by omega)
  have e10 := beq_mkS2 (opW 10) t
  obtain ⟨s10, h10⟩ : ∃ s, s = mkS (opW 10) := ⟨_, rfl⟩
  rw [← h10] at c10 e10
  have z10 : s10.toList.isEmpty = false := by rw [h10, mkS_toList]; rfl
  obtain ⟨s, hs⟩ : ∃ s, s = mkS t := ⟨_, rfl⟩
  rw [← hs]
  rw [← hs] at e0
  obtain ⟨d0, g0⟩ : ∃ d, d = decide (opW 0 = t) := ⟨_, rfl⟩
  rw [← g0] at e0
  have G0 := keepH g0
  rw [← hs] at e1
  obtain ⟨d1, g1⟩ : ∃ d, d = decide (opW 1 = t) := ⟨_, rfl⟩
  rw [← g1] at e1
  have G1 := keepH g1
  rw [← hs] at e2
  obtain ⟨d2, g2⟩ : ∃ d, d = decide (opW 2 = t) := ⟨_, rfl⟩
  rw [← g2] at e2
  have G2 := keepH g2
  rw [← hs] at e3
  obtain ⟨d3, g3⟩ : ∃ d, d = decide (opW 3 = t) := ⟨_, rfl⟩
  rw [← g3] at e3
  have G3 := keepH g3
  rw [← hs] at e4
  obtain ⟨d4, g4⟩ : ∃ d, d = decide (opW 4 = t) := ⟨_, rfl⟩
  rw [← g4] at e4
  have G4 := keepH g4
  rw [← hs] at e5
  obtain ⟨d5, g5⟩ : ∃ d, d = decide (opW 5 = t) := ⟨_, rfl⟩
  rw [← g5] at e5
  have G5 := keepH g5
  rw [← hs] at e6
  obtain ⟨d6, g6⟩ : ∃ d, d = decide (opW 6 = t) := ⟨_, rfl⟩
  rw [← g6] at e6
  have G6 := keepH g6
  rw [← hs] at e7
  obtain ⟨d7, g7⟩ : ∃ d, d = decide (opW 7 = t) := ⟨_, rfl⟩
  rw [← g7] at e7
  have G7 := keepH g7
  rw [← hs] at e8
  obtain ⟨d8, g8⟩ : ∃ d, d = decide (opW 8 = t) := ⟨_, rfl⟩
  rw [← g8] at e8
  have G8 := keepH g8
  rw [← hs] at e9
  obtain ⟨d9, g9⟩ : ∃ d, d = decide (opW 9 = t) := ⟨_, rfl⟩
  rw [← g9] at e9
  have G9 := keepH g9
  rw [← hs] at e10
  obtain ⟨d10, g10⟩ : ∃ d, d = decide (opW 10 = t) := ⟨_, rfl⟩
  rw [← g10] at e10
  have G10 := keepH g10
  clear h0 g0 h1 g1 h2 g2 h3 g3 h4 g4 h5 g5 h6 g6 h7 g7 h8 g8 h9 g9 h10 g10 hs hW
  go_enter Tryz.func75, Tryz.ntmps75
  go_wp2_with fail
  clear c0 c1 c2 c3 c4 c5 c6 c7 c8 c9 c10
  go_loopw [7] (fun s wr => ∃ i : Nat, i ≤ 11 ∧ s = .int .i64 (i : Int) ∧ Hid (wr = W ∧ ∀ j, 1 ≤ j → j < i → t ≠ opW j)) (fun s _ => 11 - (intOf s).toNat)
  case atStart => exact ⟨0, by omega, rfl, keepH ⟨rfl, fun j _ h => by omega⟩⟩
  case round =>
    obtain ⟨i, hi, rfl, HK⟩ := hrel
    have hc : i = 0 ∨ i = 1 ∨ i = 2 ∨ i = 3 ∨ i = 4 ∨ i = 5 ∨ i = 6 ∨ i = 7 ∨ i = 8 ∨ i = 9 ∨ i = 10 ∨ i = 11 := by omega
    rcases hc with rfl | rfl | rfl | rfl | rfl | rfl | rfl | rfl | rfl | rfl | rfl | rfl
    · have hx : ∀ w, (Instr.index 119 (.agg #[.string s0, .string s1, .string s2, .string s3, .string s4, .string s5, .string s6, .string s7, .string s8, .string s9, .string s10]) (.int .i64 ((0 : Nat) : Int))).run Tryz.prog w = .ok (.string s0) w := fun w => by kernel_rfl
      clear e1 z1 e2 z2 e3 z3 e4 z4 e5 z5 e6 z6 e7 z7 e8 z8 e9 z9 e10 z10
      cases d0 with
      | false =>
        have HN : Hid (wr = W ∧ ∀ j, 1 ≤ j → j < 1 → t ≠ opW j) := keepH ⟨HK.out.1, fun j h1 h2 e => by
          have hg := G0.out
          by_cases q : j = 0
          · subst q; rw [e] at hg; simp at hg
          · exact HK.out.2 j h1 (by omega) e⟩
        go_wp2_with (first | (refine wpList_index_run rfl 119 _ _ rfl (.string s0) (hx _) ?_) | fail)
        go_roundw
        case rel => exact ⟨1, by omega, by first | rfl | go_num, HN⟩
        case measure => simp [intOf]
      | true =>
        have HN : Hid (wr = W ∧ ∀ j, 1 ≤ j → j < 1 → t ≠ opW j) := keepH ⟨HK.out.1, fun j h1 h2 e => by omega⟩
        go_wp2_with (first | (refine wpList_index_run rfl 119 _ _ rfl (.string s0) (hx _) ?_) | fail)
        go_roundw
        case rel => exact ⟨1, by omega, by first | rfl | go_num, HN⟩
        case measure => simp [intOf]
    · have hx : ∀ w, (Instr.index 119 (.agg #[.string s0, .string s1, .string s2, .string s3, .string s4, .string s5, .string s6, .string s7, .string s8, .string s9, .string s10]) (.int .i64 ((1 : Nat) : Int))).run Tryz.prog w = .ok (.string s1) w := fun w => by kernel_rfl
      clear e0 z0 e2 z2 e3 z3 e4 z4 e5 z5 e6 z6 e7 z7 e8 z8 e9 z9 e10 z10
      cases d1 with
      | false =>
        have HN : Hid (wr = W ∧ ∀ j, 1 ≤ j → j < 2 → t ≠ opW j) := keepH ⟨HK.out.1, fun j h1 h2 e => by
          have hg := G1.out
          by_cases q : j = 1
          · subst q; rw [e] at hg; simp at hg
          · exact HK.out.2 j h1 (by omega) e⟩
        go_wp2_with (first | (refine wpList_index_run rfl 119 _ _ rfl (.string s1) (hx _) ?_) | fail)
        go_roundw
        case rel => exact ⟨2, by omega, by first | rfl | go_num, HN⟩
        case measure => simp [intOf]
      | true =>
        go_wp2_with (first | (refine wpList_index_run rfl 119 _ _ rfl (.string s1) (hx _) ?_) | fail)
        go_ret2
        refine ⟨.inl ⟨1, rfl, ?_, by simp⟩, HK.out.1⟩
        have := G1.out
        simp at this
        exact this.symm
    · have hx : ∀ w, (Instr.index 119 (.agg #[.string s0, .string s1, .string s2, .string s3, .string s4, .string s5, .string s6, .string s7, .string s8, .string s9, .string s10]) (.int .i64 ((2 : Nat) : Int))).run Tryz.prog w = .ok (.string s2) w := fun w => by kernel_rfl
      clear e0 z0 e1 z1 e3 z3 e4 z4 e5 z5 e6 z6 e7 z7 e8 z8 e9 z9 e10 z10
      cases d2 with
      | false =>
        have HN : Hid (wr = W ∧ ∀ j, 1 ≤ j → j < 3 → t ≠ opW j) := keepH ⟨HK.out.1, fun j h1 h2 e => by
          have hg := G2.out
          by_cases q : j = 2
          · subst q; rw [e] at hg; simp at hg
          · exact HK.out.2 j h1 (by omega) e⟩
        go_wp2_with (first | (refine wpList_index_run rfl 119 _ _ rfl (.string s2) (hx _) ?_) | fail)
        go_roundw
        case rel => exact ⟨3, by omega, by first | rfl | go_num, HN⟩
        case measure => simp [intOf]
      | true =>
        go_wp2_with (first | (refine wpList_index_run rfl 119 _ _ rfl (.string s2) (hx _) ?_) | fail)
        go_ret2
        refine ⟨.inl ⟨2, rfl, ?_, by simp⟩, HK.out.1⟩
        have := G2.out
        simp at this
        exact this.symm
    · have hx : ∀ w, (Instr.index 119 (.agg #[.string s0, .string s1, .string s2, .string s3, .string s4, .string s5, .string s6, .string s7, .string s8, .string s9, .string s10]) (.int .i64 ((3 : Nat) : Int))).run Tryz.prog w = .ok (.string s3) w := fun w => by kernel_rfl
      clear e0 z0 e1 z1 e2 z2 e4 z4 e5 z5 e6 z6 e7 z7 e8 z8 e9 z9 e10 z10
      cases d3 with
      | false =>
        have HN : Hid (wr = W ∧ ∀ j, 1 ≤ j → j < 4 → t ≠ opW j) := keepH ⟨HK.out.1, fun j h1 h2 e => by
          have hg := G3.out
          by_cases q : j = 3
          · subst q; rw [e] at hg; simp at hg
          · exact HK.out.2 j h1 (by omega) e⟩
        go_wp2_with (first | (refine wpList_index_run rfl 119 _ _ rfl (.string s3) (hx _) ?_) | fail)
        go_roundw
        case rel => exact ⟨4, by omega, by first | rfl | go_num, HN⟩
        case measure => simp [intOf]
      | true =>
        go_wp2_with (first | (refine wpList_index_run rfl 119 _ _ rfl (.string s3) (hx _) ?_) | fail)
        go_ret2
        refine ⟨.inl ⟨3, rfl, ?_, by simp⟩, HK.out.1⟩
        have := G3.out
        simp at this
        exact this.symm
    · have hx : ∀ w, (Instr.index 119 (.agg #[.string s0, .string s1, .string s2, .string s3, .string s4, .string s5, .string s6, .string s7, .string s8, .string s9, .string s10]) (.int .i64 ((4 : Nat) : Int))).run Tryz.prog w = .ok (.string s4) w := fun w => by kernel_rfl
      clear e0 z0 e1 z1 e2 z2 e3 z3 e5 z5 e6 z6 e7 z7 e8 z8 e9 z9 e10 z10
      cases d4 with
      | false =>
        have HN : Hid (wr = W ∧ ∀ j, 1 ≤ j → j < 5 → t ≠ opW j) := keepH ⟨HK.out.1, fun j h1 h2 e => by
          have hg := G4.out
          by_cases q : j = 4
          · subst q; rw [e] at hg; simp at hg
          · exact HK.out.2 j h1 (by omega) e⟩
        go_wp2_with (first | (refine wpList_index_run rfl 119 _ _ rfl (.string s4) (hx _) ?_) | fail)
        go_roundw
        case rel => exact ⟨5, by omega, by first | rfl | go_num, HN⟩
        case measure => simp [intOf]
      | true =>
        go_wp2_with (first | (refine wpList_index_run rfl 119 _ _ rfl (.string s4) (hx _) ?_) | fail)
        go_ret2
        refine ⟨.inl ⟨4, rfl, ?_, by simp⟩, HK.out.1⟩
        have := G4.out
        simp at this
        exact this.symm
    · have hx : ∀ w, (Instr.index 119 (.agg #[.string s0, .string s1, .string s2, .string s3, .string s4, .string s5, .string s6, .string s7, .string s8, .string s9, .string s10]) (.int .i64 ((5 : Nat) : Int))).run Tryz.prog w = .ok (.string s5) w := fun w => by kernel_rfl
      clear e0 z0 e1 z1 e2 z2 e3 z3 e4 z4 e6 z6 e7 z7 e8 z8 e9 z9 e10 z10
      cases d5 with
      | false =>
        have HN : Hid (wr = W ∧ ∀ j, 1 ≤ j → j < 6 → t ≠ opW j) := keepH ⟨HK.out.1, fun j h1 h2 e => by
          have hg := G5.out
          by_cases q : j = 5
          · subst q; rw [e] at hg; simp at hg
          · exact HK.out.2 j h1 (by omega) e⟩
        go_wp2_with (first | (refine wpList_index_run rfl 119 _ _ rfl (.string s5) (hx _) ?_) | fail)
        go_roundw
        case rel => exact ⟨6, by omega, by first | rfl | go_num, HN⟩
        case measure => simp [intOf]
      | true =>
        go_wp2_with (first | (refine wpList_index_run rfl 119 _ _ rfl (.string s5) (hx _) ?_) | fail)
        go_ret2
        refine ⟨.inl ⟨5, rfl, ?_, by simp⟩, HK.out.1⟩
        have := G5.out
        simp at this
        exact this.symm
    · have hx : ∀ w, (Instr.index 119 (.agg #[.string s0, .string s1, .string s2, .string s3, .string s4, .string s5, .string s6, .string s7, .string s8, .string s9, .string s10]) (.int .i64 ((6 : Nat) : Int))).run Tryz.prog w = .ok (.string s6) w := fun w => by kernel_rfl
      clear e0 z0 e1 z1 e2 z2 e3 z3 e4 z4 e5 z5 e7 z7 e8 z8 e9 z9 e10 z10
      cases d6 with
      | false =>
        have HN : Hid (wr = W ∧ ∀ j, 1 ≤ j → j < 7 → t ≠ opW j) := keepH ⟨HK.out.1, fun j h1 h2 e => by
          have hg := G6.out
          by_cases q : j = 6
          · subst q; rw [e] at hg; simp at hg
          · exact HK.out.2 j h1 (by omega) e⟩
        go_wp2_with (first | (refine wpList_index_run rfl 119 _ _ rfl (.string s6) (hx _) ?_) | fail)
        go_roundw
        case rel => exact ⟨7, by omega, by first | rfl | go_num, HN⟩
        case measure => simp [intOf]
      | true =>
        go_wp2_with (first | (refine wpList_index_run rfl 119 _ _ rfl (.string s6) (hx _) ?_) | fail)
        go_ret2
        refine ⟨.inl ⟨6, rfl, ?_, by simp⟩, HK.out.1⟩
        have := G6.out
        simp at this
        exact this.symm
    · have hx : ∀ w, (Instr.index 119 (.agg #[.string s0, .string s1, .string s2, .string s3, .string s4, .string s5, .string s6, .string s7, .string s8, .string s9, .string s10]) (.int .i64 ((7 : Nat) : Int))).run Tryz.prog w = .ok (.string s7) w := fun w => by kernel_rfl
      clear e0 z0 e1 z1 e2 z2 e3 z3 e4 z4 e5 z5 e6 z6 e8 z8 e9 z9 e10 z10
      cases d7 with
      | false =>
        have HN : Hid (wr = W ∧ ∀ j, 1 ≤ j → j < 8 → t ≠ opW j) := keepH ⟨HK.out.1, fun j h1 h2 e => by
          have hg := G7.out
          by_cases q : j = 7
          · subst q; rw [e] at hg; simp at hg
          · exact HK.out.2 j h1 (by omega) e⟩
        go_wp2_with (first | (refine wpList_index_run rfl 119 _ _ rfl (.string s7) (hx _) ?_) | fail)
        go_roundw
        case rel => exact ⟨8, by omega, by first | rfl | go_num, HN⟩
        case measure => simp [intOf]
      | true =>
        go_wp2_with (first | (refine wpList_index_run rfl 119 _ _ rfl (.string s7) (hx _) ?_) | fail)
        go_ret2
        refine ⟨.inl ⟨7, rfl, ?_, by simp⟩, HK.out.1⟩
        have := G7.out
        simp at this
        exact this.symm
    · have hx : ∀ w, (Instr.index 119 (.agg #[.string s0, .string s1, .string s2, .string s3, .string s4, .string s5, .string s6, .string s7, .string s8, .string s9, .string s10]) (.int .i64 ((8 : Nat) : Int))).run Tryz.prog w = .ok (.string s8) w := fun w => by kernel_rfl
      clear e0 z0 e1 z1 e2 z2 e3 z3 e4 z4 e5 z5 e6 z6 e7 z7 e9 z9 e10 z10
      cases d8 with
      | false =>
        have HN : Hid (wr = W ∧ ∀ j, 1 ≤ j → j < 9 → t ≠ opW j) := keepH ⟨HK.out.1, fun j h1 h2 e => by
          have hg := G8.out
          by_cases q : j = 8
          · subst q; rw [e] at hg; simp at hg
          · exact HK.out.2 j h1 (by omega) e⟩
        go_wp2_with (first | (refine wpList_index_run rfl 119 _ _ rfl (.string s8) (hx _) ?_) | fail)
        go_roundw
        case rel => exact ⟨9, by omega, by first | rfl | go_num, HN⟩
        case measure => simp [intOf]
      | true =>
        go_wp2_with (first | (refine wpList_index_run rfl 119 _ _ rfl (.string s8) (hx _) ?_) | fail)
        go_ret2
        refine ⟨.inl ⟨8, rfl, ?_, by simp⟩, HK.out.1⟩
        have := G8.out
        simp at this
        exact this.symm
    · have hx : ∀ w, (Instr.index 119 (.agg #[.string s0, .string s1, .string s2, .string s3, .string s4, .string s5, .string s6, .string s7, .string s8, .string s9, .string s10]) (.int .i64 ((9 : Nat) : Int))).run Tryz.prog w = .ok (.string s9) w := fun w => by kernel_rfl
      clear e0 z0 e1 z1 e2 z2 e3 z3 e4 z4 e5 z5 e6 z6 e7 z7 e8 z8 e10 z10
      cases d9 with
      | false =>
        have HN : Hid (wr = W ∧ ∀ j, 1 ≤ j → j < 10 → t ≠ opW j) := keepH ⟨HK.out.1, fun j h1 h2 e => by
          have hg := G9.out
          by_cases q : j = 9
          · subst q; rw [e] at hg; simp at hg
          · exact HK.out.2 j h1 (by omega) e⟩
        go_wp2_with (first | (refine wpList_index_run rfl 119 _ _ rfl (.string s9) (hx _) ?_) | fail)
        go_roundw
        case rel => exact ⟨10, by omega, by first | rfl | go_num, HN⟩
        case measure => simp [intOf]
      | true =>
        go_wp2_with (first | (refine wpList_index_run rfl 119 _ _ rfl (.string s9) (hx _) ?_) | fail)
        go_ret2
        refine ⟨.inl ⟨9, rfl, ?_, by simp⟩, HK.out.1⟩
        have := G9.out
        simp at this
        exact this.symm
    · have hx : ∀ w, (Instr.index 119 (.agg #[.string s0, .string s1, .string s2, .string s3, .string s4, .string s5, .string s6, .string s7, .string s8, .string s9, .string s10]) (.int .i64 ((10 : Nat) : Int))).run Tryz.prog w = .ok (.string s10) w := fun w => by kernel_rfl
      clear e0 z0 e1 z1 e2 z2 e3 z3 e4 z4 e5 z5 e6 z6 e7 z7 e8 z8 e9 z9
      cases d10 with
      | false =>
        have HN : Hid (wr = W ∧ ∀ j, 1 ≤ j → j < 11 → t ≠ opW j) := keepH ⟨HK.out.1, fun j h1 h2 e => by
          have hg := G10.out
          by_cases q : j = 10
          · subst q; rw [e] at hg; simp at hg
          · exact HK.out.2 j h1 (by omega) e⟩
        go_wp2_with (first | (refine wpList_index_run rfl 119 _ _ rfl (.string s10) (hx _) ?_) | fail)
        go_roundw
        case rel => exact ⟨11, by omega, by first | rfl | go_num, HN⟩
        case measure => simp [intOf]
      | true =>
        go_wp2_with (first | (refine wpList_index_run rfl 119 _ _ rfl (.string s10) (hx _) ?_) | fail)
        go_ret2
        refine ⟨.inl ⟨10, rfl, ?_, by simp⟩, HK.out.1⟩
        have := G10.out
        simp at this
        exact this.symm
    · go_wp2_with fail
      go_ret2
      refine ⟨.inr ⟨fun k hk => HK.out.2 k ?_ ?_, by simp⟩, HK.out.1⟩
      · simp [hasK] at hk; omega
      · simp [hasK] at hk; omega
end Go.Proofs.YtmmaniolaljjlaaGreatDoor
