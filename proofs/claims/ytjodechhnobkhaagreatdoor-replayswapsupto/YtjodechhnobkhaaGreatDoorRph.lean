/- print: the text of an access; by kind. (mkRph.py) -/
import Derived.Test.YtjodechhnobkhaaGreatDoorRpg
import Derived.Deep.RegionHeld3
namespace Go.Proofs.YtjodechhnobkhaaGreatDoor
open Go.RowKit Go.Shelf
set_option linter.unusedVariables false

theorem infoStr : (Tryz.prog.info? 9).map (fun i => (i.zero, i.size, i.bytes)) = some (some (.string ⟨#[]⟩), 1, 16) := by kernel_rfl
def strsRow (ls : List (List UInt8)) : List Value := ls.map (fun x => Value.string (mkS x))
theorem strsRow_snoc (ls : List (List UInt8)) (r : List UInt8) : strsRow (ls ++ [r]) = strsRow ls ++ [.string (mkS r)] := by simp [strsRow]
theorem below_drew1 {B : Nat} {w w' : World} (h : Below B w w') : Below B w w'.drew := ⟨h.os, h.tape, h.output, h.size, h.block⟩
theorem dec_len {u : Nat} (h : isU u) : (Lib.decDigits u).length ≤ 21 := by
  have := Lib.itoa_nonneg u
  by_cases q : u < 9223372036854775808
  · have e := Lib.itoa_length_le (u : Int) (by omega) (by omega)
    rw [this] at e
    exact e
  · rw [Lib.decDigits_length]
    have := Lib.numDigits_eq u (by omega) h
    split at this <;> omega
theorem join_len {M : Nat} : ∀ (fs : List (List UInt8)), (∀ f ∈ fs, f.length ≤ M) → (Lib.join fs [32]).length ≤ fs.length * (M + 1)
  | [], _ => by simp [Lib.join]
  | [x], h => by rw [Lib.join_one]; have := h x (by simp); simp; omega
  | x :: y :: r, h => by
    have a := h x (by simp)
    have b := join_len (y :: r) (fun f hf => h f (by simp [hf]))
    rw [join_cc, List.length_append, List.length_cons]
    simp only [List.length_cons, Nat.add_mul] at b ⊢
    omega
def pfK (th : Int) (k : Nat) (nums : List Nat) (i : Nat) : List (List UInt8) := Lib.itoa th :: wordL k :: (nums.take i).map Lib.decDigits
theorem pfK_succ (th : Int) (k : Nat) {nums : List Nat} {i u : Nat} (h : nums[i]? = some u) : pfK th k nums (i + 1) = pfK th k nums i ++ [Lib.decDigits u] := by
  unfold pfK; rw [List.take_add_one, h]; simp
def pvK (base : List (List UInt8)) (vals : List Nat) (i : Nat) : List (List UInt8) := base ++ (vals.take i).map Lib.decDigits
theorem pvK_succ (base : List (List UInt8)) {vals : List Nat} {i u : Nat} (h : vals[i]? = some u) : pvK base vals (i + 1) = pvK base vals i ++ [Lib.decDigits u] := by
  unfold pvK; rw [List.take_add_one, h]; simp

/-- what lies in memory while an access is printed -/
structure PQ (W : World) (tb B nb : Nat) (cs ps : Array Value) (fs : List (List UInt8)) (v : Value) (wr : World) : Prop where
  ri : RI W tb B nb cs ps wr
  row : wr.ownsRow 0 9 1 v fs.length (strsRow fs)
  new : ∀ b, v.ownBlock = some b → W.heap.size ≤ b
  tb0 : tb < W.heap.size
theorem RI.chgV {W : World} {tb B nb : Nat} {cs ps : Array Value} {wr w2 : World} {r : Option Nat} (h : RI W tb B nb cs ps wr) (hg : wr.grownBy w2 r) (hB : r ≠ some B) (hnb : r ≠ some nb) (ht : r ≠ some tb) (hn : ∀ b, r = some b → W.heap.size ≤ b) : RI W tb B nb cs ps w2 :=
  ⟨h.bel.grown hg (Nat.le_trans (Nat.le_refl _) h.bel.size) hn, (hg.block B (lt_of h.box) (Ne.symm hB)).trans h.box, (hg.block nb (lt_of h.row) (Ne.symm hnb)).trans h.row, (hg.block tb (lt_of h.frm) (Ne.symm ht)).trans h.frm, h.lo, h.ne, h.nt⟩
theorem RI.on {W : World} {tb B nb : Nat} {cs ps : Array Value} {wr w2 : World} (h : RI W tb B nb cs ps wr) (hb : Below wr.heap.size wr w2) : RI W tb B nb cs ps w2 :=
  ⟨below_chain h.bel hb, heap_below h.box hb, heap_below h.row hb, h.frm.on hb, h.lo, h.ne, h.nt⟩
theorem PQ.on {W : World} {tb B nb : Nat} {cs ps : Array Value} {fs : List (List UInt8)} {v : Value} {wr w2 : World} (h : PQ W tb B nb cs ps fs v wr) (hb : Below wr.heap.size wr w2) : PQ W tb B nb cs ps fs v w2 :=
  ⟨h.ri.on hb, row_kept h.row (fun k hk => hb.block k (row_lt h.row k hk)), h.new, h.tb0⟩
theorem PQ.more {W : World} {tb B nb : Nat} {cs ps : Array Value} {fs : List (List UInt8)} {v v' : Value} {wr w2 : World} {r : List UInt8} {o : Obj} (h : PQ W tb B nb cs ps fs v wr)
    (hr : w2.ownsRow 0 9 1 v' (fs.length + 1) (strsRow fs ++ [.string (mkS r)])) (hg : (wr.alloc o).grownBy w2 v.ownBlock) (hw : v'.ownBlock = v.ownBlock ∨ v'.ownBlock = some (wr.alloc o).heap.size) : PQ W tb B nb cs ps (fs ++ [r]) v' w2 := by
  have h1 := h.on (below_alloc wr o)
  refine ⟨h1.ri.chgV hg (fun e => block_apart h1.row h1.ri.box (by decide) e) (fun e => block_apart h1.row h1.ri.row (by decide) e) (fun e => block_apart h1.row h1.ri.frm (by decide) e) (fun b e => h.new b e), by rw [strsRow_snoc, List.length_append]; exact hr, ?_, h.tb0⟩
  intro b hb
  rcases hw with e1 | e1
  · rw [e1] at hb; exact h.new b hb
  · rw [e1] at hb
    simp at hb
    have := h.ri.bel.size
    omega
theorem PQ.start {W w1 w2 : World} {tb B : Nat} {cs ps : Array Value} {fs : List (List UInt8)} {v : Value} (hB : B = W.heap.size) (h0 : Below W.heap.size W w1) (hx : w1.heap[B]? = some (.cells cs 44 (0, 0))) (hf : IsForms w1 tb) (htb : tb < W.heap.size) (hr : w1.ownsRow 0 9 1 v fs.length (strsRow fs)) (hv : ∀ b, v.ownBlock = some b → W.heap.size ≤ b) (hn : NumsAt w1 w2 ps) : PQ W tb B w1.heap.size cs ps fs v w2 :=
  ⟨RI.start hB h0 hx hf htb hn, row_kept hr (fun k hk => hn.2.2.block k (row_lt hr k hk)), hv, htb⟩
theorem row2 (w : World) (a b : List UInt8) : (w.alloc (.cells #[.string (mkS a), .string (mkS b)] 9)).ownsRow 0 9 1 (.slice (some ⟨w.heap.size, 0, none⟩) 2 2) 2 (strsRow [a, b]) :=
  ⟨rfl, .inr ⟨w.heap.size, 2, #[.string (mkS a), .string (mkS b)], rfl, Nat.zero_le _, heap_alloc_new _ _, Nat.le_refl _, by unfold maxLen; omega, rfl, rfl⟩⟩
theorem row_slice {W : World} {v : Value} {fs : List (List UInt8)} (h : W.ownsRow 0 9 1 v fs.length (strsRow fs)) (hn : 0 < fs.length) : ∃ g c, v = .slice (some ⟨g, 0, none⟩) fs.length c ∧ g < W.heap.size ∧ fs.length ≤ c ∧ ∀ (j : Nat) f, fs[j]? = some f → W.cell? ⟨g, j, none⟩ = some (.string (mkS f)) := by
  have hl := fun k hk => row_lt h k hk
  have hc := fun g (hg : v.ownBlock = some g) => h.cells (g := g) hg
  rcases h.2 with ⟨rfl, h0⟩ | ⟨g, cap, cur, rfl, _, _, hle, _⟩
  · omega
  · refine ⟨g, cap, rfl, hl g rfl, hle, fun j f hf => ?_⟩
    have e := hc g rfl j (.string (mkS f)) (by unfold strsRow; rw [List.getElem?_map, hf]; rfl)
    rw [show (⟨g, 0, none⟩ : Addr).add j = ⟨g, j, none⟩ by unfold Addr.add; split <;> simp_all] at e
    exact e

set_option maxRecDepth 100000 in
set_option maxHeartbeats 4000000 in
theorem print_1 (th : Int) (ad a b got c tb : Nat) (vals : List Nat) (p : Option Addr) (ok : Bool) (W : World) (hF : IsForms W tb) (T : Tb W) (h0 : -9223372036854775808 ≤ th) (h1 : th < 9223372036854775808) (had : isU ad) (ha : isU a) (hb : isU b) (hgot : isU got) (hv : ∀ v ∈ vals, isU v) (hu : URd W p vals) (hl : vals.length ≤ 1048576) :
    Calls Tryz.prog 37 #[.pointer (some ⟨tb, 0, none⟩), .agg #[.int .i64 th, .int .u8 1, .int .u64 (ad : Int), .int .u64 (a : Int), .int .u64 (b : Int), .slice p vals.length c, .int .u64 (got : Int), .bool ok]] W fun e W' => e = .returned (.string (mkS (lineA ⟨th, 1, ad, a, b, vals, got, ok⟩))) ∧ Below W.heap.size W W' := by
  obtain ⟨i0, hi, hz0, hz1, hz2⟩ := info_parts infoStr
  obtain ⟨n, hn⟩ : ∃ n, n = vals.length := ⟨_, rfl⟩
  rw [← hn] at hl ⊢
  have HN := keepH hn
  clear hn
  have htb := lt_of hF
  obtain ⟨w0, hw0⟩ : ∃ w0, w0 = W.alloc (.cells #[.int .i64 th, .int .u8 1, .int .u64 (ad : Int), .int .u64 (a : Int), .int .u64 (b : Int), .slice p n c, .int .u64 (got : Int), .bool ok] 44) := ⟨_, rfl⟩
  obtain ⟨B, hB⟩ : ∃ B, B = W.heap.size := ⟨_, rfl⟩
  have B0 : Below W.heap.size W w0 := by rw [hw0]; exact below_alloc _ _
  have X0 : w0.heap[B]? = some (.cells #[.int .i64 th, .int .u8 1, .int .u64 (ad : Int), .int .u64 (a : Int), .int .u64 (b : Int), .slice p n c, .int .u64 (got : Int), .bool ok] 44 (0, 0)) := by rw [hw0, hB]; exact heap_alloc_new _ _
  have F0 := hF.on B0
  have x1 : w0.cell? ⟨B, 1, none⟩ = some (.int .u8 1) := cell_of X0 1
  have HB := keepH hB
  have HH : Hid (Below W.heap.size W w0 ∧ w0.heap[B]? = some (.cells #[.int .i64 th, .int .u8 1, .int .u64 (ad : Int), .int .u64 (a : Int), .int .u64 (b : Int), .slice p n c, .int .u64 (got : Int), .bool ok] 44 (0, 0)) ∧ IsForms w0 tb ∧ tb < W.heap.size) := keepH ⟨B0, X0, F0, htb⟩
  have HT := keepH T
  have HU := keepH hu
  have HV := keepH hv
  have HIT : Hid (∀ w', Below W.heap.size W w' → Calls Tryz.prog 67 #[.int .i64 th] w' fun e w'' => e = .returned (.string (mkS (Lib.itoa th))) ∧ Below w'.heap.size w' w'') := keepH (fun w' hb => itoa_any th h0 h1 w' (HT.out.on hb))
  obtain ⟨si, hsi⟩ : ∃ s, s = mkS (Lib.itoa th) := ⟨_, rfl⟩
  rw [← hsi] at HIT
  have HSI := keepH hsi
  have HTH := keepH (And.intro h0 h1)
  clear hF htb B0 X0 F0 T hu hv h0 h1 hsi
  go_enter Tryz.func37, Tryz.ntmps37
  go_upto_region 1 with fail
  rw [← hw0, ← hB]
  clear hw0 hB
  go_quiet (fail)
  obtain ⟨w1, hw1⟩ : ∃ w1, w1 = w0.drewN nq := ⟨_, rfl⟩
  have D : Below w0.heap.size w0 w1 := by rw [hw1]; exact below_drewN (Below.refl _ _) _
  have HH1 : Hid (Below W.heap.size W w1 ∧ w1.heap[B]? = some (.cells #[.int .i64 th, .int .u8 1, .int .u64 (ad : Int), .int .u64 (a : Int), .int .u64 (b : Int), .slice p n c, .int .u64 (got : Int), .bool ok] 44 (0, 0)) ∧ IsForms w1 tb ∧ tb < W.heap.size) := keepH ⟨below_chain HH.out.1 D, heap_below HH.out.2.1 D, HH.out.2.2.1.on D, HH.out.2.2.2⟩
  clear x1 D
  rw [← hw1]
  clear hw1 HH
  have y0 : w1.cell? ⟨B, 0, none⟩ = some (.int .i64 th) := cell_of HH1.out.2.1 0
  have y1 : w1.cell? ⟨tb, 4, none⟩ = some (.string (mkS (wordL 1))) := cell_of HH1.out.2.2.1 4
  obtain ⟨sw, hsw⟩ : ∃ s, s = mkS (wordL 1) := ⟨_, rfl⟩
  rw [← hsw] at y1
  have HSW := keepH hsw
  have HS0 : Hid (w1.cell? ⟨B, 0, none⟩ = some (.int .i64 th) ∧ w1.cell? ⟨tb, 4, none⟩ = some (.string sw)) := keepH ⟨y0, y1⟩
  clear hsw y0 y1
  go_upto_region 2 with fail
  go_region_held3 (fun w' => w'.cell? ⟨B, 0, none⟩ = some (.int .i64 th) ∧ w'.cell? ⟨tb, 4, none⟩ = some (.string sw)) (first | exact HS0.out | exact hS5 | exact ⟨cell_below hS5.1 (below_alloc _ _), cell_below hS5.2 (below_alloc _ _)⟩) (first | (go_at_call 67; refine (HIT.out _ (by first | exact HH1.out.1 | exact below_drew1 HH1.out.1)).mono ?_; rintro e w2 ⟨rfl, C2⟩; have HC2 : Hid (Below w1.heap.size w1 w2) := keepH (by first | exact C2 | exact ⟨C2.os, C2.tape, C2.output, C2.size, C2.block⟩); have hS5 : w2.cell? ⟨B, 0, none⟩ = some (.int .i64 th) ∧ w2.cell? ⟨tb, 4, none⟩ = some (.string sw) := ⟨cell_below HS0.out.1 HC2.out, cell_below HS0.out.2 HC2.out⟩; clear C2))
  all_goals (
    obtain ⟨w3, hw3⟩ : ∃ w3, w3 = w2.alloc (.cells #[.string si, .string sw] 9) := ⟨_, rfl⟩
    rw [← hw3]
    have D3 : Below w1.heap.size w1 w3 := by rw [hw3]; exact below_chain HC2.out (below_alloc _ _)
    have B3 := below_chain HH1.out.1 D3
    have X3 := heap_below HH1.out.2.1 D3
    have F3 := HH1.out.2.2.1.on D3
    have R3 : w3.ownsRow 0 9 1 (.slice (some ⟨w2.heap.size, 0, none⟩) 2 2) 2 (strsRow [Lib.itoa th, wordL 1]) := by rw [hw3, HSI.out, HSW.out]; exact row2 _ _ _
    have hg : W.heap.size ≤ w2.heap.size := Nat.le_trans HH1.out.1.size HC2.out.size
    obtain ⟨g, hgg⟩ : ∃ g, g = w2.heap.size := ⟨_, rfl⟩
    rw [← hgg] at hg R3 ⊢
    have HP : Hid (∀ w4, NumsAt w3 w4 #[.pointer (some ⟨B, 2, none⟩), .pointer (some ⟨B, 6, none⟩)] → PQ W tb B w3.heap.size #[.int .i64 th, .int .u8 1, .int .u64 (ad : Int), .int .u64 (a : Int), .int .u64 (b : Int), .slice p n c, .int .u64 (got : Int), .bool ok] #[.pointer (some ⟨B, 2, none⟩), .pointer (some ⟨B, 6, none⟩)] (pfK th 1 [ad, got] 0) (.slice (some ⟨g, 0, none⟩) 2 2) w4) := keepH (fun w4 hn => PQ.start HB.out B3 X3 F3 HH1.out.2.2.2 R3 (fun b hb => by simp [Value.ownBlock] at hb; omega) hn)
    have fk : w3.cell? ⟨tb, 5, none⟩ = some (.func (.func 45) #[] #[]) := cell_of F3 5
    have hn := f_n1 B w3
    clear hw3 D3 B3 X3 F3 R3 hg hgg
    go_wp2_with fail
    refine hn.mono ?_
    rintro e w4 ⟨rfl, hN⟩
    have HI0 := keepH (HP.out w4 hN)
    obtain ⟨nb, hnb⟩ : ∃ nb, nb = w3.heap.size := ⟨_, rfl⟩
    rw [← hnb] at HI0 ⊢
    clear hnb hN hn fk HP hS5
    go_wp2_with fail
    go_loopw [6, 8, 30] (fun s6 s8 s30 wr => ∃ i : Nat, i ≤ 2 ∧ s30 = .int .i64 (i : Int) ∧ Hid (PQ W tb B nb #[.int .i64 th, .int .u8 1, .int .u64 (ad : Int), .int .u64 (a : Int), .int .u64 (b : Int), .slice p n c, .int .u64 (got : Int), .bool ok] #[.pointer (some ⟨B, 2, none⟩), .pointer (some ⟨B, 6, none⟩)] (pfK th 1 [ad, got] i) s6 wr)) (fun _ _ s30 _ => 2 - (intOf s30).toNat)
    case atStart => exact ⟨0, by omega, rfl, HI0⟩
    case round =>
     obtain ⟨i, hii, rfl, HI⟩ := hrel
     by_cases hlt : i < 2
     · have hcase : i = 0 ∨ i = 1 := by omega
       clear hlt hii
       rcases hcase with rfl | rfl
       · have x0 : wr.cell? ⟨nb, 0, none⟩ = some (.pointer (some ⟨B, 2, none⟩)) := cell_of HI.out.ri.row 0
         have x1 : wr.cell? ⟨B, 2, none⟩ = some (.int .u64 (ad : Int)) := cell_of HI.out.ri.box 2
         have hd := dec_any ad (by assumption) wr (HT.out.on HI.out.ri.bel)
         obtain ⟨sr, hsr⟩ : ∃ s, s = mkS (Lib.decDigits ad) := ⟨_, rfl⟩
         rw [← hsr] at hd
         have HSR := keepH hsr
         clear hsr
         go_wp2_with fail
         refine hd.mono ?_
         rintro e w4 ⟨rfl, C4⟩
         have H4 := keepH (HI.out.on C4)
         obtain ⟨fs, hfs⟩ : ∃ fs, fs = pfK th 1 [ad, got] 0 := ⟨_, rfl⟩
         rw [← hfs] at H4
         have hnl : fs.length = 2 := by rw [hfs]; rfl
         obtain ⟨nl, hnl2⟩ : ∃ nl, nl = fs.length := ⟨_, rfl⟩
         have HRW : Hid (w4.ownsRow 0 9 1 u6 nl (strsRow fs)) := by rw [hnl2]; exact H4.out.row
         have hn6 : nl ≤ 10 := by omega
         have HFS := keepH hfs
         have HNL := keepH hnl2
         clear hfs hnl hnl2 C4 x0 x1 hd
         go_wp2_with (first | (at_builtin; refine wpList_append_own_at _ rfl _ _ 136 rfl 0 9 i0 (.string ⟨#[]⟩) 1 16 Tryz.underlying136 hi hz0 hz1 hz2 rfl (by decide) u6 nl (strsRow fs) rfl (HRW.out.alloc _) ⟨w4.heap.size, 0, none⟩ 1 1 [.string sr] rfl rfl (cells_newR _ _ rfl _ _) (by intro u hu; simp at hu; rcases hu with rfl; rfl) (by unfold maxLen; omega) (by omega) (Nat.zero_le _) ?_; intro v2 w5 r1 r2 r3 r4; have R1 := keepH r1; have R2 := keepH r2; have R4 := keepH r4; clear r1 r2 r3 r4) | go_in)
         have HN : Hid (PQ W tb B nb #[.int .i64 th, .int .u8 1, .int .u64 (ad : Int), .int .u64 (a : Int), .int .u64 (b : Int), .slice p n c, .int .u64 (got : Int), .bool ok] #[.pointer (some ⟨B, 2, none⟩), .pointer (some ⟨B, 6, none⟩)] (pfK th 1 [ad, got] 1) v2 w5) := keepH (by
           rw [pfK_succ th 1 (show [ad, got][0]? = some ad from rfl), ← HFS.out]
           exact H4.out.more (by rw [← HSR.out, ← HNL.out]; exact R1.out) R2.out R4.out)
         go_roundw
         case rel => exact ⟨1, by omega, by first | rfl | go_num, HN⟩
         case measure => simp [intOf]
       · have x0 : wr.cell? ⟨nb, 1, none⟩ = some (.pointer (some ⟨B, 6, none⟩)) := cell_of HI.out.ri.row 1
         have x1 : wr.cell? ⟨B, 6, none⟩ = some (.int .u64 (got : Int)) := cell_of HI.out.ri.box 6
         have hd := dec_any got (by assumption) wr (HT.out.on HI.out.ri.bel)
         obtain ⟨sr, hsr⟩ : ∃ s, s = mkS (Lib.decDigits got) := ⟨_, rfl⟩
         rw [← hsr] at hd
         have HSR := keepH hsr
         clear hsr
         go_wp2_with fail
         refine hd.mono ?_
         rintro e w4 ⟨rfl, C4⟩
         have H4 := keepH (HI.out.on C4)
         obtain ⟨fs, hfs⟩ : ∃ fs, fs = pfK th 1 [ad, got] 1 := ⟨_, rfl⟩
         rw [← hfs] at H4
         have hnl : fs.length = 3 := by rw [hfs]; rfl
         obtain ⟨nl, hnl2⟩ : ∃ nl, nl = fs.length := ⟨_, rfl⟩
         have HRW : Hid (w4.ownsRow 0 9 1 u6 nl (strsRow fs)) := by rw [hnl2]; exact H4.out.row
         have hn6 : nl ≤ 10 := by omega
         have HFS := keepH hfs
         have HNL := keepH hnl2
         clear hfs hnl hnl2 C4 x0 x1 hd
         go_wp2_with (first | (at_builtin; refine wpList_append_own_at _ rfl _ _ 136 rfl 0 9 i0 (.string ⟨#[]⟩) 1 16 Tryz.underlying136 hi hz0 hz1 hz2 rfl (by decide) u6 nl (strsRow fs) rfl (HRW.out.alloc _) ⟨w4.heap.size, 0, none⟩ 1 1 [.string sr] rfl rfl (cells_newR _ _ rfl _ _) (by intro u hu; simp at hu; rcases hu with rfl; rfl) (by unfold maxLen; omega) (by omega) (Nat.zero_le _) ?_; intro v2 w5 r1 r2 r3 r4; have R1 := keepH r1; have R2 := keepH r2; have R4 := keepH r4; clear r1 r2 r3 r4) | go_in)
         have HN : Hid (PQ W tb B nb #[.int .i64 th, .int .u8 1, .int .u64 (ad : Int), .int .u64 (a : Int), .int .u64 (b : Int), .slice p n c, .int .u64 (got : Int), .bool ok] #[.pointer (some ⟨B, 2, none⟩), .pointer (some ⟨B, 6, none⟩)] (pfK th 1 [ad, got] 2) v2 w5) := keepH (by
           rw [pfK_succ th 1 (show [ad, got][1]? = some got from rfl), ← HFS.out]
           exact H4.out.more (by rw [← HSR.out, ← HNL.out]; exact R1.out) R2.out R4.out)
         go_roundw
         case rel => exact ⟨2, by omega, by first | rfl | go_num, HN⟩
         case measure => simp [intOf]
     · obtain rfl : i = 2 := by omega
       clear hlt hii
       rw [show ((2 : Nat) : Int) = 2 from rfl]
       have f2 : wr.cell? ⟨tb, 6, none⟩ = some (.bool false) := cell_of HI.out.ri.frm 6
       have x5 : wr.cell? ⟨B, 5, none⟩ = some (.slice p n c) := cell_of HI.out.ri.box 5
       have HI2 : Hid (PQ W tb B nb #[.int .i64 th, .int .u8 1, .int .u64 (ad : Int), .int .u64 (a : Int), .int .u64 (b : Int), .slice p n c, .int .u64 (got : Int), .bool ok] #[.pointer (some ⟨B, 2, none⟩), .pointer (some ⟨B, 6, none⟩)] (pvK (pfK th 1 [ad, got] 2) vals 0) u6 wr) := keepH (by have e := HI.out; simpa [pvK] using e)
       go_wp2_with fail
       clear x5
       go_loopw [6, 10, 55] (fun s6 s10 s55 wx => ∃ j : Nat, j ≤ n ∧ s55 = .int .i64 (j : Int) ∧ Hid (PQ W tb B nb #[.int .i64 th, .int .u8 1, .int .u64 (ad : Int), .int .u64 (a : Int), .int .u64 (b : Int), .slice p n c, .int .u64 (got : Int), .bool ok] #[.pointer (some ⟨B, 2, none⟩), .pointer (some ⟨B, 6, none⟩)] (pvK (pfK th 1 [ad, got] 2) vals j) s6 wx)) (fun _ _ s55 _ => n - (intOf s55).toNat)
       case atStart => exact ⟨0, by omega, rfl, HI2⟩
       case round =>
         obtain ⟨j, hj, rfl, HJ⟩ := hrel
         by_cases hlt : j < n
         · have q1 : (j : Int) < (n : Int) := by omega
           have q0 : (0 : Int) ≤ (j : Int) := by omega
           obtain ⟨u, hu⟩ : ∃ u, vals[j]? = some u := ⟨vals[j]'(by rw [← HN.out]; exact hlt), List.getElem?_eq_getElem _⟩
           have hud := HV.out u (List.mem_of_getElem? hu)
           obtain ⟨bk, off, rfl, _, c0⟩ := (HU.out.on HJ.out.ri.bel).get j u hu
           have hd := dec_any u hud wr (HT.out.on HJ.out.ri.bel)
           obtain ⟨sr, hsr⟩ : ∃ s, s = mkS (Lib.decDigits u) := ⟨_, rfl⟩
           rw [← hsr] at hd
           have HSR := keepH hsr
           have HUX := keepH hu
           clear hsr hu hud
           go_wp2_with fail
           refine hd.mono ?_
           rintro e w4 ⟨rfl, C4⟩
           have H4 := keepH (HJ.out.on C4)
           obtain ⟨fs, hfs⟩ : ∃ fs, fs = pvK (pfK th 1 [ad, got] 2) vals j := ⟨_, rfl⟩
           rw [← hfs] at H4
           have hnl : fs.length ≤ 10 + n := by rw [hfs]; unfold pvK pfK; simp; omega
           obtain ⟨nl, hnl2⟩ : ∃ nl, nl = fs.length := ⟨_, rfl⟩
           have HRW : Hid (w4.ownsRow 0 9 1 u6 nl (strsRow fs)) := by rw [hnl2]; exact H4.out.row
           have hn6 : nl ≤ 10 + n := by omega
           have HFS := keepH hfs
           have HNL := keepH hnl2
           clear hfs hnl hnl2 C4 hd c0
           go_wp2_with (first | (at_builtin; refine wpList_append_own_at _ rfl _ _ 136 rfl 0 9 i0 (.string ⟨#[]⟩) 1 16 Tryz.underlying136 hi hz0 hz1 hz2 rfl (by decide) u6 nl (strsRow fs) rfl (HRW.out.alloc _) ⟨w4.heap.size, 0, none⟩ 1 1 [.string sr] rfl rfl (cells_newR _ _ rfl _ _) (by intro u hu; simp at hu; rcases hu with rfl; rfl) (by unfold maxLen; omega) (by omega) (Nat.zero_le _) ?_; intro v2 w5 r1 r2 r3 r4; have R1 := keepH r1; have R2 := keepH r2; have R4 := keepH r4; clear r1 r2 r3 r4) | go_in)
           have hx := H4.out.more (by rw [← HSR.out, ← HNL.out]; exact R1.out) R2.out R4.out
           rw [HFS.out, ← pvK_succ _ HUX.out] at hx
           have HX := keepH hx
           clear hx
           go_roundw
           case rel => exact ⟨j + 1, by omega, by first | rfl | go_num, HX⟩
           case measure => simp [intOf]; omega
         · have q1 : ¬ (j : Int) < (n : Int) := by omega
           obtain rfl : j = n := by omega
           obtain ⟨fs, hfs⟩ : ∃ fs, fs = pvK (pfK th 1 [ad, got] 2) vals j := ⟨_, rfl⟩
           rw [← hfs] at HJ
           have hp : fs = partsL ⟨th, 1, ad, a, b, vals, got, ok⟩ := by
             rw [hfs]; unfold pvK pfK partsL numsL
             rw [List.take_of_length_le (Nat.le_of_eq HN.out.symm)]
             simp
           have hlen : (Lib.join fs [32]).length ≤ 140737488355328 := by
             refine Nat.le_trans (join_len (M := 21) fs (fun f hf => ?_)) ?_
             · rw [hp] at hf
               unfold partsL at hf
               rcases List.mem_cons.mp hf with rfl | hf
               · exact Lib.itoa_length_le _ HTH.out.1 (by have := HTH.out.2; simp only; omega)
               rcases List.mem_cons.mp hf with rfl | hf
               · simp [wordL]
               rcases List.mem_append.mp hf with hf | hf
               · obtain ⟨m, hm, rfl⟩ := List.mem_map.mp hf
                 refine dec_len ?_
                 simp [numsL] at hm
                 rcases hm with rfl | rfl <;> assumption
               rcases List.mem_append.mp hf with hf | hf
               · simp at hf
               · obtain ⟨m, hm, rfl⟩ := List.mem_map.mp hf
                 exact dec_len (HV.out m hm)
             · have : fs.length ≤ 10 + j := by rw [hfs]; unfold pvK pfK; simp; omega
               omega
           obtain ⟨g, cg, rfl, hg, hcg, hcl⟩ := row_slice HJ.out.row (by rw [hfs]; unfold pvK pfK; simp)
           have hjn := join_any g cg fs wr hcl hg (by have : fs.length ≤ 10 + j := (by rw [hfs]; unfold pvK pfK; simp; omega); omega) hcg hlen
           obtain ⟨sj, hsj⟩ : ∃ s, s = mkS (Lib.join fs [32]) := ⟨_, rfl⟩
           rw [← hsj] at hjn
           have HSJ : Hid (mkS (lineA ⟨th, 1, ad, a, b, vals, got, ok⟩) = sj) := keepH (by rw [hsj, hp]; rfl)
           obtain ⟨nf, hnf⟩ : ∃ nf, nf = fs.length := ⟨_, rfl⟩
           rw [← hnf] at hjn ⊢
           clear hsj hfs hp hlen hcl hnf
           go_wp2_with fail
           refine hjn.mono ?_
           rintro e w6 ⟨rfl, C6⟩
           have B6 := below_chain HJ.out.ri.bel C6
           go_wp2_with fail
           go_ret
           exact ⟨by rw [HSJ.out]; rfl, B6⟩
       )

set_option maxRecDepth 100000 in
set_option maxHeartbeats 4000000 in
theorem print_2 (th : Int) (ad a b got c tb : Nat) (vals : List Nat) (p : Option Addr) (ok : Bool) (W : World) (hF : IsForms W tb) (T : Tb W) (h0 : -9223372036854775808 ≤ th) (h1 : th < 9223372036854775808) (had : isU ad) (ha : isU a) (hb : isU b) (hgot : isU got) (hv : ∀ v ∈ vals, isU v) (hu : URd W p vals) (hl : vals.length ≤ 1048576) :
    Calls Tryz.prog 37 #[.pointer (some ⟨tb, 0, none⟩), .agg #[.int .i64 th, .int .u8 2, .int .u64 (ad : Int), .int .u64 (a : Int), .int .u64 (b : Int), .slice p vals.length c, .int .u64 (got : Int), .bool ok]] W fun e W' => e = .returned (.string (mkS (lineA ⟨th, 2, ad, a, b, vals, got, ok⟩))) ∧ Below W.heap.size W W' := by
  obtain ⟨i0, hi, hz0, hz1, hz2⟩ := info_parts infoStr
  obtain ⟨n, hn⟩ : ∃ n, n = vals.length := ⟨_, rfl⟩
  rw [← hn] at hl ⊢
  have HN := keepH hn
  clear hn
  have htb := lt_of hF
  obtain ⟨w0, hw0⟩ : ∃ w0, w0 = W.alloc (.cells #[.int .i64 th, .int .u8 2, .int .u64 (ad : Int), .int .u64 (a : Int), .int .u64 (b : Int), .slice p n c, .int .u64 (got : Int), .bool ok] 44) := ⟨_, rfl⟩
  obtain ⟨B, hB⟩ : ∃ B, B = W.heap.size := ⟨_, rfl⟩
  have B0 : Below W.heap.size W w0 := by rw [hw0]; exact below_alloc _ _
  have X0 : w0.heap[B]? = some (.cells #[.int .i64 th, .int .u8 2, .int .u64 (ad : Int), .int .u64 (a : Int), .int .u64 (b : Int), .slice p n c, .int .u64 (got : Int), .bool ok] 44 (0, 0)) := by rw [hw0, hB]; exact heap_alloc_new _ _
  have F0 := hF.on B0
  have x1 : w0.cell? ⟨B, 1, none⟩ = some (.int .u8 2) := cell_of X0 1
  have HB := keepH hB
  have HH : Hid (Below W.heap.size W w0 ∧ w0.heap[B]? = some (.cells #[.int .i64 th, .int .u8 2, .int .u64 (ad : Int), .int .u64 (a : Int), .int .u64 (b : Int), .slice p n c, .int .u64 (got : Int), .bool ok] 44 (0, 0)) ∧ IsForms w0 tb ∧ tb < W.heap.size) := keepH ⟨B0, X0, F0, htb⟩
  have HT := keepH T
  have HU := keepH hu
  have HV := keepH hv
  have HIT : Hid (∀ w', Below W.heap.size W w' → Calls Tryz.prog 67 #[.int .i64 th] w' fun e w'' => e = .returned (.string (mkS (Lib.itoa th))) ∧ Below w'.heap.size w' w'') := keepH (fun w' hb => itoa_any th h0 h1 w' (HT.out.on hb))
  obtain ⟨si, hsi⟩ : ∃ s, s = mkS (Lib.itoa th) := ⟨_, rfl⟩
  rw [← hsi] at HIT
  have HSI := keepH hsi
  have HTH := keepH (And.intro h0 h1)
  clear hF htb B0 X0 F0 T hu hv h0 h1 hsi
  go_enter Tryz.func37, Tryz.ntmps37
  go_upto_region 1 with fail
  rw [← hw0, ← hB]
  clear hw0 hB
  go_quiet (fail)
  obtain ⟨w1, hw1⟩ : ∃ w1, w1 = w0.drewN nq := ⟨_, rfl⟩
  have D : Below w0.heap.size w0 w1 := by rw [hw1]; exact below_drewN (Below.refl _ _) _
  have HH1 : Hid (Below W.heap.size W w1 ∧ w1.heap[B]? = some (.cells #[.int .i64 th, .int .u8 2, .int .u64 (ad : Int), .int .u64 (a : Int), .int .u64 (b : Int), .slice p n c, .int .u64 (got : Int), .bool ok] 44 (0, 0)) ∧ IsForms w1 tb ∧ tb < W.heap.size) := keepH ⟨below_chain HH.out.1 D, heap_below HH.out.2.1 D, HH.out.2.2.1.on D, HH.out.2.2.2⟩
  clear x1 D
  rw [← hw1]
  clear hw1 HH
  have y0 : w1.cell? ⟨B, 0, none⟩ = some (.int .i64 th) := cell_of HH1.out.2.1 0
  have y1 : w1.cell? ⟨tb, 8, none⟩ = some (.string (mkS (wordL 2))) := cell_of HH1.out.2.2.1 8
  obtain ⟨sw, hsw⟩ : ∃ s, s = mkS (wordL 2) := ⟨_, rfl⟩
  rw [← hsw] at y1
  have HSW := keepH hsw
  have HS0 : Hid (w1.cell? ⟨B, 0, none⟩ = some (.int .i64 th) ∧ w1.cell? ⟨tb, 8, none⟩ = some (.string sw)) := keepH ⟨y0, y1⟩
  clear hsw y0 y1
  go_upto_region 2 with fail
  go_region_held3 (fun w' => w'.cell? ⟨B, 0, none⟩ = some (.int .i64 th) ∧ w'.cell? ⟨tb, 8, none⟩ = some (.string sw)) (first | exact HS0.out | exact hS5 | exact ⟨cell_below hS5.1 (below_alloc _ _), cell_below hS5.2 (below_alloc _ _)⟩) (first | (go_at_call 67; refine (HIT.out _ (by first | exact HH1.out.1 | exact below_drew1 HH1.out.1)).mono ?_; rintro e w2 ⟨rfl, C2⟩; have HC2 : Hid (Below w1.heap.size w1 w2) := keepH (by first | exact C2 | exact ⟨C2.os, C2.tape, C2.output, C2.size, C2.block⟩); have hS5 : w2.cell? ⟨B, 0, none⟩ = some (.int .i64 th) ∧ w2.cell? ⟨tb, 8, none⟩ = some (.string sw) := ⟨cell_below HS0.out.1 HC2.out, cell_below HS0.out.2 HC2.out⟩; clear C2))
  all_goals (
    obtain ⟨w3, hw3⟩ : ∃ w3, w3 = w2.alloc (.cells #[.string si, .string sw] 9) := ⟨_, rfl⟩
    rw [← hw3]
    have D3 : Below w1.heap.size w1 w3 := by rw [hw3]; exact below_chain HC2.out (below_alloc _ _)
    have B3 := below_chain HH1.out.1 D3
    have X3 := heap_below HH1.out.2.1 D3
    have F3 := HH1.out.2.2.1.on D3
    have R3 : w3.ownsRow 0 9 1 (.slice (some ⟨w2.heap.size, 0, none⟩) 2 2) 2 (strsRow [Lib.itoa th, wordL 2]) := by rw [hw3, HSI.out, HSW.out]; exact row2 _ _ _
    have hg : W.heap.size ≤ w2.heap.size := Nat.le_trans HH1.out.1.size HC2.out.size
    obtain ⟨g, hgg⟩ : ∃ g, g = w2.heap.size := ⟨_, rfl⟩
    rw [← hgg] at hg R3 ⊢
    have HP : Hid (∀ w4, NumsAt w3 w4 #[.pointer (some ⟨B, 2, none⟩), .pointer (some ⟨B, 3, none⟩)] → PQ W tb B w3.heap.size #[.int .i64 th, .int .u8 2, .int .u64 (ad : Int), .int .u64 (a : Int), .int .u64 (b : Int), .slice p n c, .int .u64 (got : Int), .bool ok] #[.pointer (some ⟨B, 2, none⟩), .pointer (some ⟨B, 3, none⟩)] (pfK th 2 [ad, a] 0) (.slice (some ⟨g, 0, none⟩) 2 2) w4) := keepH (fun w4 hn => PQ.start HB.out B3 X3 F3 HH1.out.2.2.2 R3 (fun b hb => by simp [Value.ownBlock] at hb; omega) hn)
    have fk : w3.cell? ⟨tb, 9, none⟩ = some (.func (.func 46) #[] #[]) := cell_of F3 9
    have hn := f_n2 B w3
    clear hw3 D3 B3 X3 F3 R3 hg hgg
    go_wp2_with fail
    refine hn.mono ?_
    rintro e w4 ⟨rfl, hN⟩
    have HI0 := keepH (HP.out w4 hN)
    obtain ⟨nb, hnb⟩ : ∃ nb, nb = w3.heap.size := ⟨_, rfl⟩
    rw [← hnb] at HI0 ⊢
    clear hnb hN hn fk HP hS5
    go_wp2_with fail
    go_loopw [6, 8, 30] (fun s6 s8 s30 wr => ∃ i : Nat, i ≤ 2 ∧ s30 = .int .i64 (i : Int) ∧ Hid (PQ W tb B nb #[.int .i64 th, .int .u8 2, .int .u64 (ad : Int), .int .u64 (a : Int), .int .u64 (b : Int), .slice p n c, .int .u64 (got : Int), .bool ok] #[.pointer (some ⟨B, 2, none⟩), .pointer (some ⟨B, 3, none⟩)] (pfK th 2 [ad, a] i) s6 wr)) (fun _ _ s30 _ => 2 - (intOf s30).toNat)
    case atStart => exact ⟨0, by omega, rfl, HI0⟩
    case round =>
     obtain ⟨i, hii, rfl, HI⟩ := hrel
     by_cases hlt : i < 2
     · have hcase : i = 0 ∨ i = 1 := by omega
       clear hlt hii
       rcases hcase with rfl | rfl
       · have x0 : wr.cell? ⟨nb, 0, none⟩ = some (.pointer (some ⟨B, 2, none⟩)) := cell_of HI.out.ri.row 0
         have x1 : wr.cell? ⟨B, 2, none⟩ = some (.int .u64 (ad : Int)) := cell_of HI.out.ri.box 2
         have hd := dec_any ad (by assumption) wr (HT.out.on HI.out.ri.bel)
         obtain ⟨sr, hsr⟩ : ∃ s, s = mkS (Lib.decDigits ad) := ⟨_, rfl⟩
         rw [← hsr] at hd
         have HSR := keepH hsr
         clear hsr
         go_wp2_with fail
         refine hd.mono ?_
         rintro e w4 ⟨rfl, C4⟩
         have H4 := keepH (HI.out.on C4)
         obtain ⟨fs, hfs⟩ : ∃ fs, fs = pfK th 2 [ad, a] 0 := ⟨_, rfl⟩
         rw [← hfs] at H4
         have hnl : fs.length = 2 := by rw [hfs]; rfl
         obtain ⟨nl, hnl2⟩ : ∃ nl, nl = fs.length := ⟨_, rfl⟩
         have HRW : Hid (w4.ownsRow 0 9 1 u6 nl (strsRow fs)) := by rw [hnl2]; exact H4.out.row
         have hn6 : nl ≤ 10 := by omega
         have HFS := keepH hfs
         have HNL := keepH hnl2
         clear hfs hnl hnl2 C4 x0 x1 hd
         go_wp2_with (first | (at_builtin; refine wpList_append_own_at _ rfl _ _ 136 rfl 0 9 i0 (.string ⟨#[]⟩) 1 16 Tryz.underlying136 hi hz0 hz1 hz2 rfl (by decide) u6 nl (strsRow fs) rfl (HRW.out.alloc _) ⟨w4.heap.size, 0, none⟩ 1 1 [.string sr] rfl rfl (cells_newR _ _ rfl _ _) (by intro u hu; simp at hu; rcases hu with rfl; rfl) (by unfold maxLen; omega) (by omega) (Nat.zero_le _) ?_; intro v2 w5 r1 r2 r3 r4; have R1 := keepH r1; have R2 := keepH r2; have R4 := keepH r4; clear r1 r2 r3 r4) | go_in)
         have HN : Hid (PQ W tb B nb #[.int .i64 th, .int .u8 2, .int .u64 (ad : Int), .int .u64 (a : Int), .int .u64 (b : Int), .slice p n c, .int .u64 (got : Int), .bool ok] #[.pointer (some ⟨B, 2, none⟩), .pointer (some ⟨B, 3, none⟩)] (pfK th 2 [ad, a] 1) v2 w5) := keepH (by
           rw [pfK_succ th 2 (show [ad, a][0]? = some ad from rfl), ← HFS.out]
           exact H4.out.more (by rw [← HSR.out, ← HNL.out]; exact R1.out) R2.out R4.out)
         go_roundw
         case rel => exact ⟨1, by omega, by first | rfl | go_num, HN⟩
         case measure => simp [intOf]
       · have x0 : wr.cell? ⟨nb, 1, none⟩ = some (.pointer (some ⟨B, 3, none⟩)) := cell_of HI.out.ri.row 1
         have x1 : wr.cell? ⟨B, 3, none⟩ = some (.int .u64 (a : Int)) := cell_of HI.out.ri.box 3
         have hd := dec_any a (by assumption) wr (HT.out.on HI.out.ri.bel)
         obtain ⟨sr, hsr⟩ : ∃ s, s = mkS (Lib.decDigits a) := ⟨_, rfl⟩
         rw [← hsr] at hd
         have HSR := keepH hsr
         clear hsr
         go_wp2_with fail
         refine hd.mono ?_
         rintro e w4 ⟨rfl, C4⟩
         have H4 := keepH (HI.out.on C4)
         obtain ⟨fs, hfs⟩ : ∃ fs, fs = pfK th 2 [ad, a] 1 := ⟨_, rfl⟩
         rw [← hfs] at H4
         have hnl : fs.length = 3 := by rw [hfs]; rfl
         obtain ⟨nl, hnl2⟩ : ∃ nl, nl = fs.length := ⟨_, rfl⟩
         have HRW : Hid (w4.ownsRow 0 9 1 u6 nl (strsRow fs)) := by rw [hnl2]; exact H4.out.row
         have hn6 : nl ≤ 10 := by omega
         have HFS := keepH hfs
         have HNL := keepH hnl2
         clear hfs hnl hnl2 C4 x0 x1 hd
         go_wp2_with (first | (at_builtin; refine wpList_append_own_at _ rfl _ _ 136 rfl 0 9 i0 (.string ⟨#[]⟩) 1 16 Tryz.underlying136 hi hz0 hz1 hz2 rfl (by decide) u6 nl (strsRow fs) rfl (HRW.out.alloc _) ⟨w4.heap.size, 0, none⟩ 1 1 [.string sr] rfl rfl (cells_newR _ _ rfl _ _) (by intro u hu; simp at hu; rcases hu with rfl; rfl) (by unfold maxLen; omega) (by omega) (Nat.zero_le _) ?_; intro v2 w5 r1 r2 r3 r4; have R1 := keepH r1; have R2 := keepH r2; have R4 := keepH r4; clear r1 r2 r3 r4) | go_in)
         have HN : Hid (PQ W tb B nb #[.int .i64 th, .int .u8 2, .int .u64 (ad : Int), .int .u64 (a : Int), .int .u64 (b : Int), .slice p n c, .int .u64 (got : Int), .bool ok] #[.pointer (some ⟨B, 2, none⟩), .pointer (some ⟨B, 3, none⟩)] (pfK th 2 [ad, a] 2) v2 w5) := keepH (by
           rw [pfK_succ th 2 (show [ad, a][1]? = some a from rfl), ← HFS.out]
           exact H4.out.more (by rw [← HSR.out, ← HNL.out]; exact R1.out) R2.out R4.out)
         go_roundw
         case rel => exact ⟨2, by omega, by first | rfl | go_num, HN⟩
         case measure => simp [intOf]
     · obtain rfl : i = 2 := by omega
       clear hlt hii
       rw [show ((2 : Nat) : Int) = 2 from rfl]
       have f2 : wr.cell? ⟨tb, 10, none⟩ = some (.bool false) := cell_of HI.out.ri.frm 10
       have x5 : wr.cell? ⟨B, 5, none⟩ = some (.slice p n c) := cell_of HI.out.ri.box 5
       have HI2 : Hid (PQ W tb B nb #[.int .i64 th, .int .u8 2, .int .u64 (ad : Int), .int .u64 (a : Int), .int .u64 (b : Int), .slice p n c, .int .u64 (got : Int), .bool ok] #[.pointer (some ⟨B, 2, none⟩), .pointer (some ⟨B, 3, none⟩)] (pvK (pfK th 2 [ad, a] 2) vals 0) u6 wr) := keepH (by have e := HI.out; simpa [pvK] using e)
       go_wp2_with fail
       clear x5
       go_loopw [6, 10, 55] (fun s6 s10 s55 wx => ∃ j : Nat, j ≤ n ∧ s55 = .int .i64 (j : Int) ∧ Hid (PQ W tb B nb #[.int .i64 th, .int .u8 2, .int .u64 (ad : Int), .int .u64 (a : Int), .int .u64 (b : Int), .slice p n c, .int .u64 (got : Int), .bool ok] #[.pointer (some ⟨B, 2, none⟩), .pointer (some ⟨B, 3, none⟩)] (pvK (pfK th 2 [ad, a] 2) vals j) s6 wx)) (fun _ _ s55 _ => n - (intOf s55).toNat)
       case atStart => exact ⟨0, by omega, rfl, HI2⟩
       case round =>
         obtain ⟨j, hj, rfl, HJ⟩ := hrel
         by_cases hlt : j < n
         · have q1 : (j : Int) < (n : Int) := by omega
           have q0 : (0 : Int) ≤ (j : Int) := by omega
           obtain ⟨u, hu⟩ : ∃ u, vals[j]? = some u := ⟨vals[j]'(by rw [← HN.out]; exact hlt), List.getElem?_eq_getElem _⟩
           have hud := HV.out u (List.mem_of_getElem? hu)
           obtain ⟨bk, off, rfl, _, c0⟩ := (HU.out.on HJ.out.ri.bel).get j u hu
           have hd := dec_any u hud wr (HT.out.on HJ.out.ri.bel)
           obtain ⟨sr, hsr⟩ : ∃ s, s = mkS (Lib.decDigits u) := ⟨_, rfl⟩
           rw [← hsr] at hd
           have HSR := keepH hsr
           have HUX := keepH hu
           clear hsr hu hud
           go_wp2_with fail
           refine hd.mono ?_
           rintro e w4 ⟨rfl, C4⟩
           have H4 := keepH (HJ.out.on C4)
           obtain ⟨fs, hfs⟩ : ∃ fs, fs = pvK (pfK th 2 [ad, a] 2) vals j := ⟨_, rfl⟩
           rw [← hfs] at H4
           have hnl : fs.length ≤ 10 + n := by rw [hfs]; unfold pvK pfK; simp; omega
           obtain ⟨nl, hnl2⟩ : ∃ nl, nl = fs.length := ⟨_, rfl⟩
           have HRW : Hid (w4.ownsRow 0 9 1 u6 nl (strsRow fs)) := by rw [hnl2]; exact H4.out.row
           have hn6 : nl ≤ 10 + n := by omega
           have HFS := keepH hfs
           have HNL := keepH hnl2
           clear hfs hnl hnl2 C4 hd c0
           go_wp2_with (first | (at_builtin; refine wpList_append_own_at _ rfl _ _ 136 rfl 0 9 i0 (.string ⟨#[]⟩) 1 16 Tryz.underlying136 hi hz0 hz1 hz2 rfl (by decide) u6 nl (strsRow fs) rfl (HRW.out.alloc _) ⟨w4.heap.size, 0, none⟩ 1 1 [.string sr] rfl rfl (cells_newR _ _ rfl _ _) (by intro u hu; simp at hu; rcases hu with rfl; rfl) (by unfold maxLen; omega) (by omega) (Nat.zero_le _) ?_; intro v2 w5 r1 r2 r3 r4; have R1 := keepH r1; have R2 := keepH r2; have R4 := keepH r4; clear r1 r2 r3 r4) | go_in)
           have hx := H4.out.more (by rw [← HSR.out, ← HNL.out]; exact R1.out) R2.out R4.out
           rw [HFS.out, ← pvK_succ _ HUX.out] at hx
           have HX := keepH hx
           clear hx
           go_roundw
           case rel => exact ⟨j + 1, by omega, by first | rfl | go_num, HX⟩
           case measure => simp [intOf]; omega
         · have q1 : ¬ (j : Int) < (n : Int) := by omega
           obtain rfl : j = n := by omega
           obtain ⟨fs, hfs⟩ : ∃ fs, fs = pvK (pfK th 2 [ad, a] 2) vals j := ⟨_, rfl⟩
           rw [← hfs] at HJ
           have hp : fs = partsL ⟨th, 2, ad, a, b, vals, got, ok⟩ := by
             rw [hfs]; unfold pvK pfK partsL numsL
             rw [List.take_of_length_le (Nat.le_of_eq HN.out.symm)]
             simp
           have hlen : (Lib.join fs [32]).length ≤ 140737488355328 := by
             refine Nat.le_trans (join_len (M := 21) fs (fun f hf => ?_)) ?_
             · rw [hp] at hf
               unfold partsL at hf
               rcases List.mem_cons.mp hf with rfl | hf
               · exact Lib.itoa_length_le _ HTH.out.1 (by have := HTH.out.2; simp only; omega)
               rcases List.mem_cons.mp hf with rfl | hf
               · simp [wordL]
               rcases List.mem_append.mp hf with hf | hf
               · obtain ⟨m, hm, rfl⟩ := List.mem_map.mp hf
                 refine dec_len ?_
                 simp [numsL] at hm
                 rcases hm with rfl | rfl <;> assumption
               rcases List.mem_append.mp hf with hf | hf
               · simp at hf
               · obtain ⟨m, hm, rfl⟩ := List.mem_map.mp hf
                 exact dec_len (HV.out m hm)
             · have : fs.length ≤ 10 + j := by rw [hfs]; unfold pvK pfK; simp; omega
               omega
           obtain ⟨g, cg, rfl, hg, hcg, hcl⟩ := row_slice HJ.out.row (by rw [hfs]; unfold pvK pfK; simp)
           have hjn := join_any g cg fs wr hcl hg (by have : fs.length ≤ 10 + j := (by rw [hfs]; unfold pvK pfK; simp; omega); omega) hcg hlen
           obtain ⟨sj, hsj⟩ : ∃ s, s = mkS (Lib.join fs [32]) := ⟨_, rfl⟩
           rw [← hsj] at hjn
           have HSJ : Hid (mkS (lineA ⟨th, 2, ad, a, b, vals, got, ok⟩) = sj) := keepH (by rw [hsj, hp]; rfl)
           obtain ⟨nf, hnf⟩ : ∃ nf, nf = fs.length := ⟨_, rfl⟩
           rw [← hnf] at hjn ⊢
           clear hsj hfs hp hlen hcl hnf
           go_wp2_with fail
           refine hjn.mono ?_
           rintro e w6 ⟨rfl, C6⟩
           have B6 := below_chain HJ.out.ri.bel C6
           go_wp2_with fail
           go_ret
           exact ⟨by rw [HSJ.out]; rfl, B6⟩
       )

set_option maxRecDepth 100000 in
set_option maxHeartbeats 4000000 in
theorem print_3 (th : Int) (ad a b got c tb : Nat) (vals : List Nat) (p : Option Addr) (ok : Bool) (W : World) (hF : IsForms W tb) (T : Tb W) (h0 : -9223372036854775808 ≤ th) (h1 : th < 9223372036854775808) (had : isU ad) (ha : isU a) (hb : isU b) (hgot : isU got) (hv : ∀ v ∈ vals, isU v) (hu : URd W p vals) (hl : vals.length ≤ 1048576) :
    Calls Tryz.prog 37 #[.pointer (some ⟨tb, 0, none⟩), .agg #[.int .i64 th, .int .u8 3, .int .u64 (ad : Int), .int .u64 (a : Int), .int .u64 (b : Int), .slice p vals.length c, .int .u64 (got : Int), .bool ok]] W fun e W' => e = .returned (.string (mkS (lineA ⟨th, 3, ad, a, b, vals, got, ok⟩))) ∧ Below W.heap.size W W' := by
  obtain ⟨i0, hi, hz0, hz1, hz2⟩ := info_parts infoStr
  obtain ⟨n, hn⟩ : ∃ n, n = vals.length := ⟨_, rfl⟩
  rw [← hn] at hl ⊢
  have HN := keepH hn
  clear hn
  have htb := lt_of hF
  obtain ⟨w0, hw0⟩ : ∃ w0, w0 = W.alloc (.cells #[.int .i64 th, .int .u8 3, .int .u64 (ad : Int), .int .u64 (a : Int), .int .u64 (b : Int), .slice p n c, .int .u64 (got : Int), .bool ok] 44) := ⟨_, rfl⟩
  obtain ⟨B, hB⟩ : ∃ B, B = W.heap.size := ⟨_, rfl⟩
  have B0 : Below W.heap.size W w0 := by rw [hw0]; exact below_alloc _ _
  have X0 : w0.heap[B]? = some (.cells #[.int .i64 th, .int .u8 3, .int .u64 (ad : Int), .int .u64 (a : Int), .int .u64 (b : Int), .slice p n c, .int .u64 (got : Int), .bool ok] 44 (0, 0)) := by rw [hw0, hB]; exact heap_alloc_new _ _
  have F0 := hF.on B0
  have x1 : w0.cell? ⟨B, 1, none⟩ = some (.int .u8 3) := cell_of X0 1
  have HB := keepH hB
  have HH : Hid (Below W.heap.size W w0 ∧ w0.heap[B]? = some (.cells #[.int .i64 th, .int .u8 3, .int .u64 (ad : Int), .int .u64 (a : Int), .int .u64 (b : Int), .slice p n c, .int .u64 (got : Int), .bool ok] 44 (0, 0)) ∧ IsForms w0 tb ∧ tb < W.heap.size) := keepH ⟨B0, X0, F0, htb⟩
  have HT := keepH T
  have HU := keepH hu
  have HV := keepH hv
  have HIT : Hid (∀ w', Below W.heap.size W w' → Calls Tryz.prog 67 #[.int .i64 th] w' fun e w'' => e = .returned (.string (mkS (Lib.itoa th))) ∧ Below w'.heap.size w' w'') := keepH (fun w' hb => itoa_any th h0 h1 w' (HT.out.on hb))
  obtain ⟨si, hsi⟩ : ∃ s, s = mkS (Lib.itoa th) := ⟨_, rfl⟩
  rw [← hsi] at HIT
  have HSI := keepH hsi
  have HTH := keepH (And.intro h0 h1)
  clear hF htb B0 X0 F0 T hu hv h0 h1 hsi
  go_enter Tryz.func37, Tryz.ntmps37
  go_upto_region 1 with fail
  rw [← hw0, ← hB]
  clear hw0 hB
  go_quiet (fail)
  obtain ⟨w1, hw1⟩ : ∃ w1, w1 = w0.drewN nq := ⟨_, rfl⟩
  have D : Below w0.heap.size w0 w1 := by rw [hw1]; exact below_drewN (Below.refl _ _) _
  have HH1 : Hid (Below W.heap.size W w1 ∧ w1.heap[B]? = some (.cells #[.int .i64 th, .int .u8 3, .int .u64 (ad : Int), .int .u64 (a : Int), .int .u64 (b : Int), .slice p n c, .int .u64 (got : Int), .bool ok] 44 (0, 0)) ∧ IsForms w1 tb ∧ tb < W.heap.size) := keepH ⟨below_chain HH.out.1 D, heap_below HH.out.2.1 D, HH.out.2.2.1.on D, HH.out.2.2.2⟩
  clear x1 D
  rw [← hw1]
  clear hw1 HH
  have y0 : w1.cell? ⟨B, 0, none⟩ = some (.int .i64 th) := cell_of HH1.out.2.1 0
  have y1 : w1.cell? ⟨tb, 12, none⟩ = some (.string (mkS (wordL 3))) := cell_of HH1.out.2.2.1 12
  obtain ⟨sw, hsw⟩ : ∃ s, s = mkS (wordL 3) := ⟨_, rfl⟩
  rw [← hsw] at y1
  have HSW := keepH hsw
  have HS0 : Hid (w1.cell? ⟨B, 0, none⟩ = some (.int .i64 th) ∧ w1.cell? ⟨tb, 12, none⟩ = some (.string sw)) := keepH ⟨y0, y1⟩
  clear hsw y0 y1
  go_upto_region 2 with fail
  go_region_held3 (fun w' => w'.cell? ⟨B, 0, none⟩ = some (.int .i64 th) ∧ w'.cell? ⟨tb, 12, none⟩ = some (.string sw)) (first | exact HS0.out | exact hS5 | exact ⟨cell_below hS5.1 (below_alloc _ _), cell_below hS5.2 (below_alloc _ _)⟩) (first | (go_at_call 67; refine (HIT.out _ (by first | exact HH1.out.1 | exact below_drew1 HH1.out.1)).mono ?_; rintro e w2 ⟨rfl, C2⟩; have HC2 : Hid (Below w1.heap.size w1 w2) := keepH (by first | exact C2 | exact ⟨C2.os, C2.tape, C2.output, C2.size, C2.block⟩); have hS5 : w2.cell? ⟨B, 0, none⟩ = some (.int .i64 th) ∧ w2.cell? ⟨tb, 12, none⟩ = some (.string sw) := ⟨cell_below HS0.out.1 HC2.out, cell_below HS0.out.2 HC2.out⟩; clear C2))
  all_goals (
    obtain ⟨w3, hw3⟩ : ∃ w3, w3 = w2.alloc (.cells #[.string si, .string sw] 9) := ⟨_, rfl⟩
    rw [← hw3]
    have D3 : Below w1.heap.size w1 w3 := by rw [hw3]; exact below_chain HC2.out (below_alloc _ _)
    have B3 := below_chain HH1.out.1 D3
    have X3 := heap_below HH1.out.2.1 D3
    have F3 := HH1.out.2.2.1.on D3
    have R3 : w3.ownsRow 0 9 1 (.slice (some ⟨w2.heap.size, 0, none⟩) 2 2) 2 (strsRow [Lib.itoa th, wordL 3]) := by rw [hw3, HSI.out, HSW.out]; exact row2 _ _ _
    have hg : W.heap.size ≤ w2.heap.size := Nat.le_trans HH1.out.1.size HC2.out.size
    obtain ⟨g, hgg⟩ : ∃ g, g = w2.heap.size := ⟨_, rfl⟩
    rw [← hgg] at hg R3 ⊢
    have HP : Hid (∀ w4, NumsAt w3 w4 #[.pointer (some ⟨B, 2, none⟩), .pointer (some ⟨B, 3, none⟩), .pointer (some ⟨B, 4, none⟩)] → PQ W tb B w3.heap.size #[.int .i64 th, .int .u8 3, .int .u64 (ad : Int), .int .u64 (a : Int), .int .u64 (b : Int), .slice p n c, .int .u64 (got : Int), .bool ok] #[.pointer (some ⟨B, 2, none⟩), .pointer (some ⟨B, 3, none⟩), .pointer (some ⟨B, 4, none⟩)] (pfK th 3 [ad, a, b] 0) (.slice (some ⟨g, 0, none⟩) 2 2) w4) := keepH (fun w4 hn => PQ.start HB.out B3 X3 F3 HH1.out.2.2.2 R3 (fun b hb => by simp [Value.ownBlock] at hb; omega) hn)
    have fk : w3.cell? ⟨tb, 13, none⟩ = some (.func (.func 47) #[] #[]) := cell_of F3 13
    have hn := f_n3 B w3
    clear hw3 D3 B3 X3 F3 R3 hg hgg
    go_wp2_with fail
    refine hn.mono ?_
    rintro e w4 ⟨rfl, hN⟩
    have HI0 := keepH (HP.out w4 hN)
    obtain ⟨nb, hnb⟩ : ∃ nb, nb = w3.heap.size := ⟨_, rfl⟩
    rw [← hnb] at HI0 ⊢
    clear hnb hN hn fk HP hS5
    go_wp2_with fail
    go_loopw [6, 8, 30] (fun s6 s8 s30 wr => ∃ i : Nat, i ≤ 3 ∧ s30 = .int .i64 (i : Int) ∧ Hid (PQ W tb B nb #[.int .i64 th, .int .u8 3, .int .u64 (ad : Int), .int .u64 (a : Int), .int .u64 (b : Int), .slice p n c, .int .u64 (got : Int), .bool ok] #[.pointer (some ⟨B, 2, none⟩), .pointer (some ⟨B, 3, none⟩), .pointer (some ⟨B, 4, none⟩)] (pfK th 3 [ad, a, b] i) s6 wr)) (fun _ _ s30 _ => 3 - (intOf s30).toNat)
    case atStart => exact ⟨0, by omega, rfl, HI0⟩
    case round =>
     obtain ⟨i, hii, rfl, HI⟩ := hrel
     by_cases hlt : i < 3
     · have hcase : i = 0 ∨ i = 1 ∨ i = 2 := by omega
       clear hlt hii
       rcases hcase with rfl | rfl | rfl
       · have x0 : wr.cell? ⟨nb, 0, none⟩ = some (.pointer (some ⟨B, 2, none⟩)) := cell_of HI.out.ri.row 0
         have x1 : wr.cell? ⟨B, 2, none⟩ = some (.int .u64 (ad : Int)) := cell_of HI.out.ri.box 2
         have hd := dec_any ad (by assumption) wr (HT.out.on HI.out.ri.bel)
         obtain ⟨sr, hsr⟩ : ∃ s, s = mkS (Lib.decDigits ad) := ⟨_, rfl⟩
         rw [← hsr] at hd
         have HSR := keepH hsr
         clear hsr
         go_wp2_with fail
         refine hd.mono ?_
         rintro e w4 ⟨rfl, C4⟩
         have H4 := keepH (HI.out.on C4)
         obtain ⟨fs, hfs⟩ : ∃ fs, fs = pfK th 3 [ad, a, b] 0 := ⟨_, rfl⟩
         rw [← hfs] at H4
         have hnl : fs.length = 2 := by rw [hfs]; rfl
         obtain ⟨nl, hnl2⟩ : ∃ nl, nl = fs.length := ⟨_, rfl⟩
         have HRW : Hid (w4.ownsRow 0 9 1 u6 nl (strsRow fs)) := by rw [hnl2]; exact H4.out.row
         have hn6 : nl ≤ 10 := by omega
         have HFS := keepH hfs
         have HNL := keepH hnl2
         clear hfs hnl hnl2 C4 x0 x1 hd
         go_wp2_with (first | (at_builtin; refine wpList_append_own_at _ rfl _ _ 136 rfl 0 9 i0 (.string ⟨#[]⟩) 1 16 Tryz.underlying136 hi hz0 hz1 hz2 rfl (by decide) u6 nl (strsRow fs) rfl (HRW.out.alloc _) ⟨w4.heap.size, 0, none⟩ 1 1 [.string sr] rfl rfl (cells_newR _ _ rfl _ _) (by intro u hu; simp at hu; rcases hu with rfl; rfl) (by unfold maxLen; omega) (by omega) (Nat.zero_le _) ?_; intro v2 w5 r1 r2 r3 r4; have R1 := keepH r1; have R2 := keepH r2; have R4 := keepH r4; clear r1 r2 r3 r4) | go_in)
         have HN : Hid (PQ W tb B nb #[.int .i64 th, .int .u8 3, .int .u64 (ad : Int), .int .u64 (a : Int), .int .u64 (b : Int), .slice p n c, .int .u64 (got : Int), .bool ok] #[.pointer (some ⟨B, 2, none⟩), .pointer (some ⟨B, 3, none⟩), .pointer (some ⟨B, 4, none⟩)] (pfK th 3 [ad, a, b] 1) v2 w5) := keepH (by
           rw [pfK_succ th 3 (show [ad, a, b][0]? = some ad from rfl), ← HFS.out]
           exact H4.out.more (by rw [← HSR.out, ← HNL.out]; exact R1.out) R2.out R4.out)
         go_roundw
         case rel => exact ⟨1, by omega, by first | rfl | go_num, HN⟩
         case measure => simp [intOf]
       · have x0 : wr.cell? ⟨nb, 1, none⟩ = some (.pointer (some ⟨B, 3, none⟩)) := cell_of HI.out.ri.row 1
         have x1 : wr.cell? ⟨B, 3, none⟩ = some (.int .u64 (a : Int)) := cell_of HI.out.ri.box 3
         have hd := dec_any a (by assumption) wr (HT.out.on HI.out.ri.bel)
         obtain ⟨sr, hsr⟩ : ∃ s, s = mkS (Lib.decDigits a) := ⟨_, rfl⟩
         rw [← hsr] at hd
         have HSR := keepH hsr
         clear hsr
         go_wp2_with fail
         refine hd.mono ?_
         rintro e w4 ⟨rfl, C4⟩
         have H4 := keepH (HI.out.on C4)
         obtain ⟨fs, hfs⟩ : ∃ fs, fs = pfK th 3 [ad, a, b] 1 := ⟨_, rfl⟩
         rw [← hfs] at H4
         have hnl : fs.length = 3 := by rw [hfs]; rfl
         obtain ⟨nl, hnl2⟩ : ∃ nl, nl = fs.length := ⟨_, rfl⟩
         have HRW : Hid (w4.ownsRow 0 9 1 u6 nl (strsRow fs)) := by rw [hnl2]; exact H4.out.row
         have hn6 : nl ≤ 10 := by omega
         have HFS := keepH hfs
         have HNL := keepH hnl2
         clear hfs hnl hnl2 C4 x0 x1 hd
         go_wp2_with (first | (at_builtin; refine wpList_append_own_at _ rfl _ _ 136 rfl 0 9 i0 (.string ⟨#[]⟩) 1 16 Tryz.underlying136 hi hz0 hz1 hz2 rfl (by decide) u6 nl (strsRow fs) rfl (HRW.out.alloc _) ⟨w4.heap.size, 0, none⟩ 1 1 [.string sr] rfl rfl (cells_newR _ _ rfl _ _) (by intro u hu; simp at hu; rcases hu with rfl; rfl) (by unfold maxLen; omega) (by omega) (Nat.zero_le _) ?_; intro v2 w5 r1 r2 r3 r4; have R1 := keepH r1; have R2 := keepH r2; have R4 := keepH r4; clear r1 r2 r3 r4) | go_in)
         have HN : Hid (PQ W tb B nb #[.int .i64 th, .int .u8 3, .int .u64 (ad : Int), .int .u64 (a : Int), .int .u64 (b : Int), .slice p n c, .int .u64 (got : Int), .bool ok] #[.pointer (some ⟨B, 2, none⟩), .pointer (some ⟨B, 3, none⟩), .pointer (some ⟨B, 4, none⟩)] (pfK th 3 [ad, a, b] 2) v2 w5) := keepH (by
           rw [pfK_succ th 3 (show [ad, a, b][1]? = some a from rfl), ← HFS.out]
           exact H4.out.more (by rw [← HSR.out, ← HNL.out]; exact R1.out) R2.out R4.out)
         go_roundw
         case rel => exact ⟨2, by omega, by first | rfl | go_num, HN⟩
         case measure => simp [intOf]
       · have x0 : wr.cell? ⟨nb, 2, none⟩ = some (.pointer (some ⟨B, 4, none⟩)) := cell_of HI.out.ri.row 2
         have x1 : wr.cell? ⟨B, 4, none⟩ = some (.int .u64 (b : Int)) := cell_of HI.out.ri.box 4
         have hd := dec_any b (by assumption) wr (HT.out.on HI.out.ri.bel)
         obtain ⟨sr, hsr⟩ : ∃ s, s = mkS (Lib.decDigits b) := ⟨_, rfl⟩
         rw [← hsr] at hd
         have HSR := keepH hsr
         clear hsr
         go_wp2_with fail
         refine hd.mono ?_
         rintro e w4 ⟨rfl, C4⟩
         have H4 := keepH (HI.out.on C4)
         obtain ⟨fs, hfs⟩ : ∃ fs, fs = pfK th 3 [ad, a, b] 2 := ⟨_, rfl⟩
         rw [← hfs] at H4
         have hnl : fs.length = 4 := by rw [hfs]; rfl
         obtain ⟨nl, hnl2⟩ : ∃ nl, nl = fs.length := ⟨_, rfl⟩
         have HRW : Hid (w4.ownsRow 0 9 1 u6 nl (strsRow fs)) := by rw [hnl2]; exact H4.out.row
         have hn6 : nl ≤ 10 := by omega
         have HFS := keepH hfs
         have HNL := keepH hnl2
         clear hfs hnl hnl2 C4 x0 x1 hd
         go_wp2_with (first | (at_builtin; refine wpList_append_own_at _ rfl _ _ 136 rfl 0 9 i0 (.string ⟨#[]⟩) 1 16 Tryz.underlying136 hi hz0 hz1 hz2 rfl (by decide) u6 nl (strsRow fs) rfl (HRW.out.alloc _) ⟨w4.heap.size, 0, none⟩ 1 1 [.string sr] rfl rfl (cells_newR _ _ rfl _ _) (by intro u hu; simp at hu; rcases hu with rfl; rfl) (by unfold maxLen; omega) (by omega) (Nat.zero_le _) ?_; intro v2 w5 r1 r2 r3 r4; have R1 := keepH r1; have R2 := keepH r2; have R4 := keepH r4; clear r1 r2 r3 r4) | go_in)
         have HN : Hid (PQ W tb B nb #[.int .i64 th, .int .u8 3, .int .u64 (ad : Int), .int .u64 (a : Int), .int .u64 (b : Int), .slice p n c, .int .u64 (got : Int), .bool ok] #[.pointer (some ⟨B, 2, none⟩), .pointer (some ⟨B, 3, none⟩), .pointer (some ⟨B, 4, none⟩)] (pfK th 3 [ad, a, b] 3) v2 w5) := keepH (by
           rw [pfK_succ th 3 (show [ad, a, b][2]? = some b from rfl), ← HFS.out]
           exact H4.out.more (by rw [← HSR.out, ← HNL.out]; exact R1.out) R2.out R4.out)
         go_roundw
         case rel => exact ⟨3, by omega, by first | rfl | go_num, HN⟩
         case measure => simp [intOf]
     · obtain rfl : i = 3 := by omega
       clear hlt hii
       rw [show ((3 : Nat) : Int) = 3 from rfl]
       have f2 : wr.cell? ⟨tb, 14, none⟩ = some (.bool true) := cell_of HI.out.ri.frm 14
       have x7 : wr.cell? ⟨B, 7, none⟩ = some (.bool ok) := cell_of HI.out.ri.box 7
       have hok := ok_word ok wr
       obtain ⟨sr, hsr⟩ : ∃ s, s = mkS (okL ok) := ⟨_, rfl⟩
       rw [← hsr] at hok
       have HSR := keepH hsr
       clear hsr
       go_wp2_with fail
       refine hok.mono ?_
       rintro e w4 ⟨rfl, hw4⟩
       have H4 : Hid (PQ W tb B nb #[.int .i64 th, .int .u8 3, .int .u64 (ad : Int), .int .u64 (a : Int), .int .u64 (b : Int), .slice p n c, .int .u64 (got : Int), .bool ok] #[.pointer (some ⟨B, 2, none⟩), .pointer (some ⟨B, 3, none⟩), .pointer (some ⟨B, 4, none⟩)] (pfK th 3 [ad, a, b] 3) u6 w4) := by rw [hw4]; exact HI
       clear hw4 x7 f2 hok
       obtain ⟨fs, hfs⟩ : ∃ fs, fs = pfK th 3 [ad, a, b] 3 := ⟨_, rfl⟩
       rw [← hfs] at H4
       have hnl : fs.length = 5 := by rw [hfs]; rfl
       obtain ⟨nl, hnl2⟩ : ∃ nl, nl = fs.length := ⟨_, rfl⟩
       have HRW : Hid (w4.ownsRow 0 9 1 u6 nl (strsRow fs)) := by rw [hnl2]; exact H4.out.row
       have hn6 : nl ≤ 10 := by omega
       have HFS := keepH hfs
       have HNL := keepH hnl2
       clear hfs hnl hnl2
       go_upto_region 10 with (first | (at_builtin; refine wpList_append_own_at _ rfl _ _ 136 rfl 0 9 i0 (.string ⟨#[]⟩) 1 16 Tryz.underlying136 hi hz0 hz1 hz2 rfl (by decide) u6 nl (strsRow fs) rfl (HRW.out.alloc _) ⟨w4.heap.size, 0, none⟩ 1 1 [.string sr] rfl rfl (cells_newR _ _ rfl _ _) (by intro u hu; simp at hu; rcases hu with rfl; rfl) (by unfold maxLen; omega) (by omega) (Nat.zero_le _) ?_; intro v2 w5 r1 r2 r3 r4; have R1 := keepH r1; have R2 := keepH r2; have R4 := keepH r4; clear r1 r2 r3 r4) | go_in)
       have HI2 : Hid (PQ W tb B nb #[.int .i64 th, .int .u8 3, .int .u64 (ad : Int), .int .u64 (a : Int), .int .u64 (b : Int), .slice p n c, .int .u64 (got : Int), .bool ok] #[.pointer (some ⟨B, 2, none⟩), .pointer (some ⟨B, 3, none⟩), .pointer (some ⟨B, 4, none⟩)] (pvK (pfK th 3 [ad, a, b] 3 ++ [okL ok]) vals 0) v2 w5) := keepH (by
         have e := H4.out.more (r := okL ok) (by rw [← HSR.out, ← HNL.out]; exact R1.out) R2.out R4.out
         rw [HFS.out] at e
         simpa [pvK] using e)
       have x5 : w5.cell? ⟨B, 5, none⟩ = some (.slice p n c) := cell_of HI2.out.ri.box 5
       go_wp2_with fail
       clear x5
       go_loopw [6, 10, 55] (fun s6 s10 s55 wx => ∃ j : Nat, j ≤ n ∧ s55 = .int .i64 (j : Int) ∧ Hid (PQ W tb B nb #[.int .i64 th, .int .u8 3, .int .u64 (ad : Int), .int .u64 (a : Int), .int .u64 (b : Int), .slice p n c, .int .u64 (got : Int), .bool ok] #[.pointer (some ⟨B, 2, none⟩), .pointer (some ⟨B, 3, none⟩), .pointer (some ⟨B, 4, none⟩)] (pvK (pfK th 3 [ad, a, b] 3 ++ [okL ok]) vals j) s6 wx)) (fun _ _ s55 _ => n - (intOf s55).toNat)
       case atStart => exact ⟨0, by omega, rfl, HI2⟩
       case round =>
         obtain ⟨j, hj, rfl, HJ⟩ := hrel
         by_cases hlt : j < n
         · have q1 : (j : Int) < (n : Int) := by omega
           have q0 : (0 : Int) ≤ (j : Int) := by omega
           obtain ⟨u, hu⟩ : ∃ u, vals[j]? = some u := ⟨vals[j]'(by rw [← HN.out]; exact hlt), List.getElem?_eq_getElem _⟩
           have hud := HV.out u (List.mem_of_getElem? hu)
           obtain ⟨bk, off, rfl, _, c0⟩ := (HU.out.on HJ.out.ri.bel).get j u hu
           have hd := dec_any u hud wr (HT.out.on HJ.out.ri.bel)
           obtain ⟨sr, hsr⟩ : ∃ s, s = mkS (Lib.decDigits u) := ⟨_, rfl⟩
           rw [← hsr] at hd
           have HSR := keepH hsr
           have HUX := keepH hu
           clear hsr hu hud
           go_wp2_with fail
           refine hd.mono ?_
           rintro e w4 ⟨rfl, C4⟩
           have H4 := keepH (HJ.out.on C4)
           obtain ⟨fs, hfs⟩ : ∃ fs, fs = pvK (pfK th 3 [ad, a, b] 3 ++ [okL ok]) vals j := ⟨_, rfl⟩
           rw [← hfs] at H4
           have hnl : fs.length ≤ 10 + n := by rw [hfs]; unfold pvK pfK; simp; omega
           obtain ⟨nl, hnl2⟩ : ∃ nl, nl = fs.length := ⟨_, rfl⟩
           have HRW : Hid (w4.ownsRow 0 9 1 u6 nl (strsRow fs)) := by rw [hnl2]; exact H4.out.row
           have hn6 : nl ≤ 10 + n := by omega
           have HFS := keepH hfs
           have HNL := keepH hnl2
           clear hfs hnl hnl2 C4 hd c0
           go_wp2_with (first | (at_builtin; refine wpList_append_own_at _ rfl _ _ 136 rfl 0 9 i0 (.string ⟨#[]⟩) 1 16 Tryz.underlying136 hi hz0 hz1 hz2 rfl (by decide) u6 nl (strsRow fs) rfl (HRW.out.alloc _) ⟨w4.heap.size, 0, none⟩ 1 1 [.string sr] rfl rfl (cells_newR _ _ rfl _ _) (by intro u hu; simp at hu; rcases hu with rfl; rfl) (by unfold maxLen; omega) (by omega) (Nat.zero_le _) ?_; intro v2 w5 r1 r2 r3 r4; have R1 := keepH r1; have R2 := keepH r2; have R4 := keepH r4; clear r1 r2 r3 r4) | go_in)
           have hx := H4.out.more (by rw [← HSR.out, ← HNL.out]; exact R1.out) R2.out R4.out
           rw [HFS.out, ← pvK_succ _ HUX.out] at hx
           have HX := keepH hx
           clear hx
           go_roundw
           case rel => exact ⟨j + 1, by omega, by first | rfl | go_num, HX⟩
           case measure => simp [intOf]; omega
         · have q1 : ¬ (j : Int) < (n : Int) := by omega
           obtain rfl : j = n := by omega
           obtain ⟨fs, hfs⟩ : ∃ fs, fs = pvK (pfK th 3 [ad, a, b] 3 ++ [okL ok]) vals j := ⟨_, rfl⟩
           rw [← hfs] at HJ
           have hp : fs = partsL ⟨th, 3, ad, a, b, vals, got, ok⟩ := by
             rw [hfs]; unfold pvK pfK partsL numsL
             rw [List.take_of_length_le (Nat.le_of_eq HN.out.symm)]
             simp
           have hlen : (Lib.join fs [32]).length ≤ 140737488355328 := by
             refine Nat.le_trans (join_len (M := 21) fs (fun f hf => ?_)) ?_
             · rw [hp] at hf
               unfold partsL at hf
               rcases List.mem_cons.mp hf with rfl | hf
               · exact Lib.itoa_length_le _ HTH.out.1 (by have := HTH.out.2; simp only; omega)
               rcases List.mem_cons.mp hf with rfl | hf
               · simp [wordL]
               rcases List.mem_append.mp hf with hf | hf
               · obtain ⟨m, hm, rfl⟩ := List.mem_map.mp hf
                 refine dec_len ?_
                 simp [numsL] at hm
                 rcases hm with rfl | rfl | rfl <;> assumption
               rcases List.mem_append.mp hf with hf | hf
               · simp [okL] at hf; rcases ok with _ | _ <;> simp_all
               · obtain ⟨m, hm, rfl⟩ := List.mem_map.mp hf
                 exact dec_len (HV.out m hm)
             · have : fs.length ≤ 10 + j := by rw [hfs]; unfold pvK pfK; simp; omega
               omega
           obtain ⟨g, cg, rfl, hg, hcg, hcl⟩ := row_slice HJ.out.row (by rw [hfs]; unfold pvK pfK; simp)
           have hjn := join_any g cg fs wr hcl hg (by have : fs.length ≤ 10 + j := (by rw [hfs]; unfold pvK pfK; simp; omega); omega) hcg hlen
           obtain ⟨sj, hsj⟩ : ∃ s, s = mkS (Lib.join fs [32]) := ⟨_, rfl⟩
           rw [← hsj] at hjn
           have HSJ : Hid (mkS (lineA ⟨th, 3, ad, a, b, vals, got, ok⟩) = sj) := keepH (by rw [hsj, hp]; rfl)
           obtain ⟨nf, hnf⟩ : ∃ nf, nf = fs.length := ⟨_, rfl⟩
           rw [← hnf] at hjn ⊢
           clear hsj hfs hp hlen hcl hnf
           go_wp2_with fail
           refine hjn.mono ?_
           rintro e w6 ⟨rfl, C6⟩
           have B6 := below_chain HJ.out.ri.bel C6
           go_wp2_with fail
           go_ret
           exact ⟨by rw [HSJ.out]; rfl, B6⟩
       )

set_option maxRecDepth 100000 in
set_option maxHeartbeats 4000000 in
theorem print_4 (th : Int) (ad a b got c tb : Nat) (vals : List Nat) (p : Option Addr) (ok : Bool) (W : World) (hF : IsForms W tb) (T : Tb W) (h0 : -9223372036854775808 ≤ th) (h1 : th < 9223372036854775808) (had : isU ad) (ha : isU a) (hb : isU b) (hgot : isU got) (hv : ∀ v ∈ vals, isU v) (hu : URd W p vals) (hl : vals.length ≤ 1048576) :
    Calls Tryz.prog 37 #[.pointer (some ⟨tb, 0, none⟩), .agg #[.int .i64 th, .int .u8 4, .int .u64 (ad : Int), .int .u64 (a : Int), .int .u64 (b : Int), .slice p vals.length c, .int .u64 (got : Int), .bool ok]] W fun e W' => e = .returned (.string (mkS (lineA ⟨th, 4, ad, a, b, vals, got, ok⟩))) ∧ Below W.heap.size W W' := by
  obtain ⟨i0, hi, hz0, hz1, hz2⟩ := info_parts infoStr
  obtain ⟨n, hn⟩ : ∃ n, n = vals.length := ⟨_, rfl⟩
  rw [← hn] at hl ⊢
  have HN := keepH hn
  clear hn
  have htb := lt_of hF
  obtain ⟨w0, hw0⟩ : ∃ w0, w0 = W.alloc (.cells #[.int .i64 th, .int .u8 4, .int .u64 (ad : Int), .int .u64 (a : Int), .int .u64 (b : Int), .slice p n c, .int .u64 (got : Int), .bool ok] 44) := ⟨_, rfl⟩
  obtain ⟨B, hB⟩ : ∃ B, B = W.heap.size := ⟨_, rfl⟩
  have B0 : Below W.heap.size W w0 := by rw [hw0]; exact below_alloc _ _
  have X0 : w0.heap[B]? = some (.cells #[.int .i64 th, .int .u8 4, .int .u64 (ad : Int), .int .u64 (a : Int), .int .u64 (b : Int), .slice p n c, .int .u64 (got : Int), .bool ok] 44 (0, 0)) := by rw [hw0, hB]; exact heap_alloc_new _ _
  have F0 := hF.on B0
  have x1 : w0.cell? ⟨B, 1, none⟩ = some (.int .u8 4) := cell_of X0 1
  have HB := keepH hB
  have HH : Hid (Below W.heap.size W w0 ∧ w0.heap[B]? = some (.cells #[.int .i64 th, .int .u8 4, .int .u64 (ad : Int), .int .u64 (a : Int), .int .u64 (b : Int), .slice p n c, .int .u64 (got : Int), .bool ok] 44 (0, 0)) ∧ IsForms w0 tb ∧ tb < W.heap.size) := keepH ⟨B0, X0, F0, htb⟩
  have HT := keepH T
  have HU := keepH hu
  have HV := keepH hv
  have HIT : Hid (∀ w', Below W.heap.size W w' → Calls Tryz.prog 67 #[.int .i64 th] w' fun e w'' => e = .returned (.string (mkS (Lib.itoa th))) ∧ Below w'.heap.size w' w'') := keepH (fun w' hb => itoa_any th h0 h1 w' (HT.out.on hb))
  obtain ⟨si, hsi⟩ : ∃ s, s = mkS (Lib.itoa th) := ⟨_, rfl⟩
  rw [← hsi] at HIT
  have HSI := keepH hsi
  have HTH := keepH (And.intro h0 h1)
  clear hF htb B0 X0 F0 T hu hv h0 h1 hsi
  go_enter Tryz.func37, Tryz.ntmps37
  go_upto_region 1 with fail
  rw [← hw0, ← hB]
  clear hw0 hB
  go_quiet (fail)
  obtain ⟨w1, hw1⟩ : ∃ w1, w1 = w0.drewN nq := ⟨_, rfl⟩
  have D : Below w0.heap.size w0 w1 := by rw [hw1]; exact below_drewN (Below.refl _ _) _
  have HH1 : Hid (Below W.heap.size W w1 ∧ w1.heap[B]? = some (.cells #[.int .i64 th, .int .u8 4, .int .u64 (ad : Int), .int .u64 (a : Int), .int .u64 (b : Int), .slice p n c, .int .u64 (got : Int), .bool ok] 44 (0, 0)) ∧ IsForms w1 tb ∧ tb < W.heap.size) := keepH ⟨below_chain HH.out.1 D, heap_below HH.out.2.1 D, HH.out.2.2.1.on D, HH.out.2.2.2⟩
  clear x1 D
  rw [← hw1]
  clear hw1 HH
  have y0 : w1.cell? ⟨B, 0, none⟩ = some (.int .i64 th) := cell_of HH1.out.2.1 0
  have y1 : w1.cell? ⟨tb, 16, none⟩ = some (.string (mkS (wordL 4))) := cell_of HH1.out.2.2.1 16
  obtain ⟨sw, hsw⟩ : ∃ s, s = mkS (wordL 4) := ⟨_, rfl⟩
  rw [← hsw] at y1
  have HSW := keepH hsw
  have HS0 : Hid (w1.cell? ⟨B, 0, none⟩ = some (.int .i64 th) ∧ w1.cell? ⟨tb, 16, none⟩ = some (.string sw)) := keepH ⟨y0, y1⟩
  clear hsw y0 y1
  go_upto_region 2 with fail
  go_region_held3 (fun w' => w'.cell? ⟨B, 0, none⟩ = some (.int .i64 th) ∧ w'.cell? ⟨tb, 16, none⟩ = some (.string sw)) (first | exact HS0.out | exact hS5 | exact ⟨cell_below hS5.1 (below_alloc _ _), cell_below hS5.2 (below_alloc _ _)⟩) (first | (go_at_call 67; refine (HIT.out _ (by first | exact HH1.out.1 | exact below_drew1 HH1.out.1)).mono ?_; rintro e w2 ⟨rfl, C2⟩; have HC2 : Hid (Below w1.heap.size w1 w2) := keepH (by first | exact C2 | exact ⟨C2.os, C2.tape, C2.output, C2.size, C2.block⟩); have hS5 : w2.cell? ⟨B, 0, none⟩ = some (.int .i64 th) ∧ w2.cell? ⟨tb, 16, none⟩ = some (.string sw) := ⟨cell_below HS0.out.1 HC2.out, cell_below HS0.out.2 HC2.out⟩; clear C2))
  all_goals (
    obtain ⟨w3, hw3⟩ : ∃ w3, w3 = w2.alloc (.cells #[.string si, .string sw] 9) := ⟨_, rfl⟩
    rw [← hw3]
    have D3 : Below w1.heap.size w1 w3 := by rw [hw3]; exact below_chain HC2.out (below_alloc _ _)
    have B3 := below_chain HH1.out.1 D3
    have X3 := heap_below HH1.out.2.1 D3
    have F3 := HH1.out.2.2.1.on D3
    have R3 : w3.ownsRow 0 9 1 (.slice (some ⟨w2.heap.size, 0, none⟩) 2 2) 2 (strsRow [Lib.itoa th, wordL 4]) := by rw [hw3, HSI.out, HSW.out]; exact row2 _ _ _
    have hg : W.heap.size ≤ w2.heap.size := Nat.le_trans HH1.out.1.size HC2.out.size
    obtain ⟨g, hgg⟩ : ∃ g, g = w2.heap.size := ⟨_, rfl⟩
    rw [← hgg] at hg R3 ⊢
    have HP : Hid (∀ w4, NumsAt w3 w4 #[.pointer (some ⟨B, 2, none⟩), .pointer (some ⟨B, 3, none⟩), .pointer (some ⟨B, 6, none⟩)] → PQ W tb B w3.heap.size #[.int .i64 th, .int .u8 4, .int .u64 (ad : Int), .int .u64 (a : Int), .int .u64 (b : Int), .slice p n c, .int .u64 (got : Int), .bool ok] #[.pointer (some ⟨B, 2, none⟩), .pointer (some ⟨B, 3, none⟩), .pointer (some ⟨B, 6, none⟩)] (pfK th 4 [ad, a, got] 0) (.slice (some ⟨g, 0, none⟩) 2 2) w4) := keepH (fun w4 hn => PQ.start HB.out B3 X3 F3 HH1.out.2.2.2 R3 (fun b hb => by simp [Value.ownBlock] at hb; omega) hn)
    have fk : w3.cell? ⟨tb, 17, none⟩ = some (.func (.func 48) #[] #[]) := cell_of F3 17
    have hn := f_n4 B w3
    clear hw3 D3 B3 X3 F3 R3 hg hgg
    go_wp2_with fail
    refine hn.mono ?_
    rintro e w4 ⟨rfl, hN⟩
    have HI0 := keepH (HP.out w4 hN)
    obtain ⟨nb, hnb⟩ : ∃ nb, nb = w3.heap.size := ⟨_, rfl⟩
    rw [← hnb] at HI0 ⊢
    clear hnb hN hn fk HP hS5
    go_wp2_with fail
    go_loopw [6, 8, 30] (fun s6 s8 s30 wr => ∃ i : Nat, i ≤ 3 ∧ s30 = .int .i64 (i : Int) ∧ Hid (PQ W tb B nb #[.int .i64 th, .int .u8 4, .int .u64 (ad : Int), .int .u64 (a : Int), .int .u64 (b : Int), .slice p n c, .int .u64 (got : Int), .bool ok] #[.pointer (some ⟨B, 2, none⟩), .pointer (some ⟨B, 3, none⟩), .pointer (some ⟨B, 6, none⟩)] (pfK th 4 [ad, a, got] i) s6 wr)) (fun _ _ s30 _ => 3 - (intOf s30).toNat)
    case atStart => exact ⟨0, by omega, rfl, HI0⟩
    case round =>
     obtain ⟨i, hii, rfl, HI⟩ := hrel
     by_cases hlt : i < 3
     · have hcase : i = 0 ∨ i = 1 ∨ i = 2 := by omega
       clear hlt hii
       rcases hcase with rfl | rfl | rfl
       · have x0 : wr.cell? ⟨nb, 0, none⟩ = some (.pointer (some ⟨B, 2, none⟩)) := cell_of HI.out.ri.row 0
         have x1 : wr.cell? ⟨B, 2, none⟩ = some (.int .u64 (ad : Int)) := cell_of HI.out.ri.box 2
         have hd := dec_any ad (by assumption) wr (HT.out.on HI.out.ri.bel)
         obtain ⟨sr, hsr⟩ : ∃ s, s = mkS (Lib.decDigits ad) := ⟨_, rfl⟩
         rw [← hsr] at hd
         have HSR := keepH hsr
         clear hsr
         go_wp2_with fail
         refine hd.mono ?_
         rintro e w4 ⟨rfl, C4⟩
         have H4 := keepH (HI.out.on C4)
         obtain ⟨fs, hfs⟩ : ∃ fs, fs = pfK th 4 [ad, a, got] 0 := ⟨_, rfl⟩
         rw [← hfs] at H4
         have hnl : fs.length = 2 := by rw [hfs]; rfl
         obtain ⟨nl, hnl2⟩ : ∃ nl, nl = fs.length := ⟨_, rfl⟩
         have HRW : Hid (w4.ownsRow 0 9 1 u6 nl (strsRow fs)) := by rw [hnl2]; exact H4.out.row
         have hn6 : nl ≤ 10 := by omega
         have HFS := keepH hfs
         have HNL := keepH hnl2
         clear hfs hnl hnl2 C4 x0 x1 hd
         go_wp2_with (first | (at_builtin; refine wpList_append_own_at _ rfl _ _ 136 rfl 0 9 i0 (.string ⟨#[]⟩) 1 16 Tryz.underlying136 hi hz0 hz1 hz2 rfl (by decide) u6 nl (strsRow fs) rfl (HRW.out.alloc _) ⟨w4.heap.size, 0, none⟩ 1 1 [.string sr] rfl rfl (cells_newR _ _ rfl _ _) (by intro u hu; simp at hu; rcases hu with rfl; rfl) (by unfold maxLen; omega) (by omega) (Nat.zero_le _) ?_; intro v2 w5 r1 r2 r3 r4; have R1 := keepH r1; have R2 := keepH r2; have R4 := keepH r4; clear r1 r2 r3 r4) | go_in)
         have HN : Hid (PQ W tb B nb #[.int .i64 th, .int .u8 4, .int .u64 (ad : Int), .int .u64 (a : Int), .int .u64 (b : Int), .slice p n c, .int .u64 (got : Int), .bool ok] #[.pointer (some ⟨B, 2, none⟩), .pointer (some ⟨B, 3, none⟩), .pointer (some ⟨B, 6, none⟩)] (pfK th 4 [ad, a, got] 1) v2 w5) := keepH (by
           rw [pfK_succ th 4 (show [ad, a, got][0]? = some ad from rfl), ← HFS.out]
           exact H4.out.more (by rw [← HSR.out, ← HNL.out]; exact R1.out) R2.out R4.out)
         go_roundw
         case rel => exact ⟨1, by omega, by first | rfl | go_num, HN⟩
         case measure => simp [intOf]
       · have x0 : wr.cell? ⟨nb, 1, none⟩ = some (.pointer (some ⟨B, 3, none⟩)) := cell_of HI.out.ri.row 1
         have x1 : wr.cell? ⟨B, 3, none⟩ = some (.int .u64 (a : Int)) := cell_of HI.out.ri.box 3
         have hd := dec_any a (by assumption) wr (HT.out.on HI.out.ri.bel)
         obtain ⟨sr, hsr⟩ : ∃ s, s = mkS (Lib.decDigits a) := ⟨_, rfl⟩
         rw [← hsr] at hd
         have HSR := keepH hsr
         clear hsr
         go_wp2_with fail
         refine hd.mono ?_
         rintro e w4 ⟨rfl, C4⟩
         have H4 := keepH (HI.out.on C4)
         obtain ⟨fs, hfs⟩ : ∃ fs, fs = pfK th 4 [ad, a, got] 1 := ⟨_, rfl⟩
         rw [← hfs] at H4
         have hnl : fs.length = 3 := by rw [hfs]; rfl
         obtain ⟨nl, hnl2⟩ : ∃ nl, nl = fs.length := ⟨_, rfl⟩
         have HRW : Hid (w4.ownsRow 0 9 1 u6 nl (strsRow fs)) := by rw [hnl2]; exact H4.out.row
         have hn6 : nl ≤ 10 := by omega
         have HFS := keepH hfs
         have HNL := keepH hnl2
         clear hfs hnl hnl2 C4 x0 x1 hd
         go_wp2_with (first | (at_builtin; refine wpList_append_own_at _ rfl _ _ 136 rfl 0 9 i0 (.string ⟨#[]⟩) 1 16 Tryz.underlying136 hi hz0 hz1 hz2 rfl (by decide) u6 nl (strsRow fs) rfl (HRW.out.alloc _) ⟨w4.heap.size, 0, none⟩ 1 1 [.string sr] rfl rfl (cells_newR _ _ rfl _ _) (by intro u hu; simp at hu; rcases hu with rfl; rfl) (by unfold maxLen; omega) (by omega) (Nat.zero_le _) ?_; intro v2 w5 r1 r2 r3 r4; have R1 := keepH r1; have R2 := keepH r2; have R4 := keepH r4; clear r1 r2 r3 r4) | go_in)
         have HN : Hid (PQ W tb B nb #[.int .i64 th, .int .u8 4, .int .u64 (ad : Int), .int .u64 (a : Int), .int .u64 (b : Int), .slice p n c, .int .u64 (got : Int), .bool ok] #[.pointer (some ⟨B, 2, none⟩), .pointer (some ⟨B, 3, none⟩), .pointer (some ⟨B, 6, none⟩)] (pfK th 4 [ad, a, got] 2) v2 w5) := keepH (by
           rw [pfK_succ th 4 (show [ad, a, got][1]? = some a from rfl), ← HFS.out]
           exact H4.out.more (by rw [← HSR.out, ← HNL.out]; exact R1.out) R2.out R4.out)
         go_roundw
         case rel => exact ⟨2, by omega, by first | rfl | go_num, HN⟩
         case measure => simp [intOf]
       · have x0 : wr.cell? ⟨nb, 2, none⟩ = some (.pointer (some ⟨B, 6, none⟩)) := cell_of HI.out.ri.row 2
         have x1 : wr.cell? ⟨B, 6, none⟩ = some (.int .u64 (got : Int)) := cell_of HI.out.ri.box 6
         have hd := dec_any got (by assumption) wr (HT.out.on HI.out.ri.bel)
         obtain ⟨sr, hsr⟩ : ∃ s, s = mkS (Lib.decDigits got) := ⟨_, rfl⟩
         rw [← hsr] at hd
         have HSR := keepH hsr
         clear hsr
         go_wp2_with fail
         refine hd.mono ?_
         rintro e w4 ⟨rfl, C4⟩
         have H4 := keepH (HI.out.on C4)
         obtain ⟨fs, hfs⟩ : ∃ fs, fs = pfK th 4 [ad, a, got] 2 := ⟨_, rfl⟩
         rw [← hfs] at H4
         have hnl : fs.length = 4 := by rw [hfs]; rfl
         obtain ⟨nl, hnl2⟩ : ∃ nl, nl = fs.length := ⟨_, rfl⟩
         have HRW : Hid (w4.ownsRow 0 9 1 u6 nl (strsRow fs)) := by rw [hnl2]; exact H4.out.row
         have hn6 : nl ≤ 10 := by omega
         have HFS := keepH hfs
         have HNL := keepH hnl2
         clear hfs hnl hnl2 C4 x0 x1 hd
         go_wp2_with (first | (at_builtin; refine wpList_append_own_at _ rfl _ _ 136 rfl 0 9 i0 (.string ⟨#[]⟩) 1 16 Tryz.underlying136 hi hz0 hz1 hz2 rfl (by decide) u6 nl (strsRow fs) rfl (HRW.out.alloc _) ⟨w4.heap.size, 0, none⟩ 1 1 [.string sr] rfl rfl (cells_newR _ _ rfl _ _) (by intro u hu; simp at hu; rcases hu with rfl; rfl) (by unfold maxLen; omega) (by omega) (Nat.zero_le _) ?_; intro v2 w5 r1 r2 r3 r4; have R1 := keepH r1; have R2 := keepH r2; have R4 := keepH r4; clear r1 r2 r3 r4) | go_in)
         have HN : Hid (PQ W tb B nb #[.int .i64 th, .int .u8 4, .int .u64 (ad : Int), .int .u64 (a : Int), .int .u64 (b : Int), .slice p n c, .int .u64 (got : Int), .bool ok] #[.pointer (some ⟨B, 2, none⟩), .pointer (some ⟨B, 3, none⟩), .pointer (some ⟨B, 6, none⟩)] (pfK th 4 [ad, a, got] 3) v2 w5) := keepH (by
           rw [pfK_succ th 4 (show [ad, a, got][2]? = some got from rfl), ← HFS.out]
           exact H4.out.more (by rw [← HSR.out, ← HNL.out]; exact R1.out) R2.out R4.out)
         go_roundw
         case rel => exact ⟨3, by omega, by first | rfl | go_num, HN⟩
         case measure => simp [intOf]
     · obtain rfl : i = 3 := by omega
       clear hlt hii
       rw [show ((3 : Nat) : Int) = 3 from rfl]
       have f2 : wr.cell? ⟨tb, 18, none⟩ = some (.bool false) := cell_of HI.out.ri.frm 18
       have x5 : wr.cell? ⟨B, 5, none⟩ = some (.slice p n c) := cell_of HI.out.ri.box 5
       have HI2 : Hid (PQ W tb B nb #[.int .i64 th, .int .u8 4, .int .u64 (ad : Int), .int .u64 (a : Int), .int .u64 (b : Int), .slice p n c, .int .u64 (got : Int), .bool ok] #[.pointer (some ⟨B, 2, none⟩), .pointer (some ⟨B, 3, none⟩), .pointer (some ⟨B, 6, none⟩)] (pvK (pfK th 4 [ad, a, got] 3) vals 0) u6 wr) := keepH (by have e := HI.out; simpa [pvK] using e)
       go_wp2_with fail
       clear x5
       go_loopw [6, 10, 55] (fun s6 s10 s55 wx => ∃ j : Nat, j ≤ n ∧ s55 = .int .i64 (j : Int) ∧ Hid (PQ W tb B nb #[.int .i64 th, .int .u8 4, .int .u64 (ad : Int), .int .u64 (a : Int), .int .u64 (b : Int), .slice p n c, .int .u64 (got : Int), .bool ok] #[.pointer (some ⟨B, 2, none⟩), .pointer (some ⟨B, 3, none⟩), .pointer (some ⟨B, 6, none⟩)] (pvK (pfK th 4 [ad, a, got] 3) vals j) s6 wx)) (fun _ _ s55 _ => n - (intOf s55).toNat)
       case atStart => exact ⟨0, by omega, rfl, HI2⟩
       case round =>
         obtain ⟨j, hj, rfl, HJ⟩ := hrel
         by_cases hlt : j < n
         · have q1 : (j : Int) < (n : Int) := by omega
           have q0 : (0 : Int) ≤ (j : Int) := by omega
           obtain ⟨u, hu⟩ : ∃ u, vals[j]? = some u := ⟨vals[j]'(by rw [← HN.out]; exact hlt), List.getElem?_eq_getElem _⟩
           have hud := HV.out u (List.mem_of_getElem? hu)
           obtain ⟨bk, off, rfl, _, c0⟩ := (HU.out.on HJ.out.ri.bel).get j u hu
           have hd := dec_any u hud wr (HT.out.on HJ.out.ri.bel)
           obtain ⟨sr, hsr⟩ : ∃ s, s = mkS (Lib.decDigits u) := ⟨_, rfl⟩
           rw [← hsr] at hd
           have HSR := keepH hsr
           have HUX := keepH hu
           clear hsr hu hud
           go_wp2_with fail
           refine hd.mono ?_
           rintro e w4 ⟨rfl, C4⟩
           have H4 := keepH (HJ.out.on C4)
           obtain ⟨fs, hfs⟩ : ∃ fs, fs = pvK (pfK th 4 [ad, a, got] 3) vals j := ⟨_, rfl⟩
           rw [← hfs] at H4
           have hnl : fs.length ≤ 10 + n := by rw [hfs]; unfold pvK pfK; simp; omega
           obtain ⟨nl, hnl2⟩ : ∃ nl, nl = fs.length := ⟨_, rfl⟩
           have HRW : Hid (w4.ownsRow 0 9 1 u6 nl (strsRow fs)) := by rw [hnl2]; exact H4.out.row
           have hn6 : nl ≤ 10 + n := by omega
           have HFS := keepH hfs
           have HNL := keepH hnl2
           clear hfs hnl hnl2 C4 hd c0
           go_wp2_with (first | (at_builtin; refine wpList_append_own_at _ rfl _ _ 136 rfl 0 9 i0 (.string ⟨#[]⟩) 1 16 Tryz.underlying136 hi hz0 hz1 hz2 rfl (by decide) u6 nl (strsRow fs) rfl (HRW.out.alloc _) ⟨w4.heap.size, 0, none⟩ 1 1 [.string sr] rfl rfl (cells_newR _ _ rfl _ _) (by intro u hu; simp at hu; rcases hu with rfl; rfl) (by unfold maxLen; omega) (by omega) (Nat.zero_le _) ?_; intro v2 w5 r1 r2 r3 r4; have R1 := keepH r1; have R2 := keepH r2; have R4 := keepH r4; clear r1 r2 r3 r4) | go_in)
           have hx := H4.out.more (by rw [← HSR.out, ← HNL.out]; exact R1.out) R2.out R4.out
           rw [HFS.out, ← pvK_succ _ HUX.out] at hx
           have HX := keepH hx
           clear hx
           go_roundw
           case rel => exact ⟨j + 1, by omega, by first | rfl | go_num, HX⟩
           case measure => simp [intOf]; omega
         · have q1 : ¬ (j : Int) < (n : Int) := by omega
           obtain rfl : j = n := by omega
           obtain ⟨fs, hfs⟩ : ∃ fs, fs = pvK (pfK th 4 [ad, a, got] 3) vals j := ⟨_, rfl⟩
           rw [← hfs] at HJ
           have hp : fs = partsL ⟨th, 4, ad, a, b, vals, got, ok⟩ := by
             rw [hfs]; unfold pvK pfK partsL numsL
             rw [List.take_of_length_le (Nat.le_of_eq HN.out.symm)]
             simp
           have hlen : (Lib.join fs [32]).length ≤ 140737488355328 := by
             refine Nat.le_trans (join_len (M := 21) fs (fun f hf => ?_)) ?_
             · rw [hp] at hf
               unfold partsL at hf
               rcases List.mem_cons.mp hf with rfl | hf
               · exact Lib.itoa_length_le _ HTH.out.1 (by have := HTH.out.2; simp only; omega)
               rcases List.mem_cons.mp hf with rfl | hf
               · simp [wordL]
               rcases List.mem_append.mp hf with hf | hf
               · obtain ⟨m, hm, rfl⟩ := List.mem_map.mp hf
                 refine dec_len ?_
                 simp [numsL] at hm
                 rcases hm with rfl | rfl | rfl <;> assumption
               rcases List.mem_append.mp hf with hf | hf
               · simp at hf
               · obtain ⟨m, hm, rfl⟩ := List.mem_map.mp hf
                 exact dec_len (HV.out m hm)
             · have : fs.length ≤ 10 + j := by rw [hfs]; unfold pvK pfK; simp; omega
               omega
           obtain ⟨g, cg, rfl, hg, hcg, hcl⟩ := row_slice HJ.out.row (by rw [hfs]; unfold pvK pfK; simp)
           have hjn := join_any g cg fs wr hcl hg (by have : fs.length ≤ 10 + j := (by rw [hfs]; unfold pvK pfK; simp; omega); omega) hcg hlen
           obtain ⟨sj, hsj⟩ : ∃ s, s = mkS (Lib.join fs [32]) := ⟨_, rfl⟩
           rw [← hsj] at hjn
           have HSJ : Hid (mkS (lineA ⟨th, 4, ad, a, b, vals, got, ok⟩) = sj) := keepH (by rw [hsj, hp]; rfl)
           obtain ⟨nf, hnf⟩ : ∃ nf, nf = fs.length := ⟨_, rfl⟩
           rw [← hnf] at hjn ⊢
           clear hsj hfs hp hlen hcl hnf
           go_wp2_with fail
           refine hjn.mono ?_
           rintro e w6 ⟨rfl, C6⟩
           have B6 := below_chain HJ.out.ri.bel C6
           go_wp2_with fail
           go_ret
           exact ⟨by rw [HSJ.out]; rfl, B6⟩
       )

set_option maxRecDepth 100000 in
set_option maxHeartbeats 4000000 in
theorem print_5 (th : Int) (ad a b got c tb : Nat) (vals : List Nat) (p : Option Addr) (ok : Bool) (W : World) (hF : IsForms W tb) (T : Tb W) (h0 : -9223372036854775808 ≤ th) (h1 : th < 9223372036854775808) (had : isU ad) (ha : isU a) (hb : isU b) (hgot : isU got) (hv : ∀ v ∈ vals, isU v) (hu : URd W p vals) (hl : vals.length ≤ 1048576) :
    Calls Tryz.prog 37 #[.pointer (some ⟨tb, 0, none⟩), .agg #[.int .i64 th, .int .u8 5, .int .u64 (ad : Int), .int .u64 (a : Int), .int .u64 (b : Int), .slice p vals.length c, .int .u64 (got : Int), .bool ok]] W fun e W' => e = .returned (.string (mkS (lineA ⟨th, 5, ad, a, b, vals, got, ok⟩))) ∧ Below W.heap.size W W' := by
  obtain ⟨i0, hi, hz0, hz1, hz2⟩ := info_parts infoStr
  obtain ⟨n, hn⟩ : ∃ n, n = vals.length := ⟨_, rfl⟩
  rw [← hn] at hl ⊢
  have HN := keepH hn
  clear hn
  have htb := lt_of hF
  obtain ⟨w0, hw0⟩ : ∃ w0, w0 = W.alloc (.cells #[.int .i64 th, .int .u8 5, .int .u64 (ad : Int), .int .u64 (a : Int), .int .u64 (b : Int), .slice p n c, .int .u64 (got : Int), .bool ok] 44) := ⟨_, rfl⟩
  obtain ⟨B, hB⟩ : ∃ B, B = W.heap.size := ⟨_, rfl⟩
  have B0 : Below W.heap.size W w0 := by rw [hw0]; exact below_alloc _ _
  have X0 : w0.heap[B]? = some (.cells #[.int .i64 th, .int .u8 5, .int .u64 (ad : Int), .int .u64 (a : Int), .int .u64 (b : Int), .slice p n c, .int .u64 (got : Int), .bool ok] 44 (0, 0)) := by rw [hw0, hB]; exact heap_alloc_new _ _
  have F0 := hF.on B0
  have x1 : w0.cell? ⟨B, 1, none⟩ = some (.int .u8 5) := cell_of X0 1
  have HB := keepH hB
  have HH : Hid (Below W.heap.size W w0 ∧ w0.heap[B]? = some (.cells #[.int .i64 th, .int .u8 5, .int .u64 (ad : Int), .int .u64 (a : Int), .int .u64 (b : Int), .slice p n c, .int .u64 (got : Int), .bool ok] 44 (0, 0)) ∧ IsForms w0 tb ∧ tb < W.heap.size) := keepH ⟨B0, X0, F0, htb⟩
  have HT := keepH T
  have HU := keepH hu
  have HV := keepH hv
  have HIT : Hid (∀ w', Below W.heap.size W w' → Calls Tryz.prog 67 #[.int .i64 th] w' fun e w'' => e = .returned (.string (mkS (Lib.itoa th))) ∧ Below w'.heap.size w' w'') := keepH (fun w' hb => itoa_any th h0 h1 w' (HT.out.on hb))
  obtain ⟨si, hsi⟩ : ∃ s, s = mkS (Lib.itoa th) := ⟨_, rfl⟩
  rw [← hsi] at HIT
  have HSI := keepH hsi
  have HTH := keepH (And.intro h0 h1)
  clear hF htb B0 X0 F0 T hu hv h0 h1 hsi
  go_enter Tryz.func37, Tryz.ntmps37
  go_upto_region 1 with fail
  rw [← hw0, ← hB]
  clear hw0 hB
  go_quiet (fail)
  obtain ⟨w1, hw1⟩ : ∃ w1, w1 = w0.drewN nq := ⟨_, rfl⟩
  have D : Below w0.heap.size w0 w1 := by rw [hw1]; exact below_drewN (Below.refl _ _) _
  have HH1 : Hid (Below W.heap.size W w1 ∧ w1.heap[B]? = some (.cells #[.int .i64 th, .int .u8 5, .int .u64 (ad : Int), .int .u64 (a : Int), .int .u64 (b : Int), .slice p n c, .int .u64 (got : Int), .bool ok] 44 (0, 0)) ∧ IsForms w1 tb ∧ tb < W.heap.size) := keepH ⟨below_chain HH.out.1 D, heap_below HH.out.2.1 D, HH.out.2.2.1.on D, HH.out.2.2.2⟩
  clear x1 D
  rw [← hw1]
  clear hw1 HH
  have y0 : w1.cell? ⟨B, 0, none⟩ = some (.int .i64 th) := cell_of HH1.out.2.1 0
  have y1 : w1.cell? ⟨tb, 20, none⟩ = some (.string (mkS (wordL 5))) := cell_of HH1.out.2.2.1 20
  obtain ⟨sw, hsw⟩ : ∃ s, s = mkS (wordL 5) := ⟨_, rfl⟩
  rw [← hsw] at y1
  have HSW := keepH hsw
  have HS0 : Hid (w1.cell? ⟨B, 0, none⟩ = some (.int .i64 th) ∧ w1.cell? ⟨tb, 20, none⟩ = some (.string sw)) := keepH ⟨y0, y1⟩
  clear hsw y0 y1
  go_upto_region 2 with fail
  go_region_held3 (fun w' => w'.cell? ⟨B, 0, none⟩ = some (.int .i64 th) ∧ w'.cell? ⟨tb, 20, none⟩ = some (.string sw)) (first | exact HS0.out | exact hS5 | exact ⟨cell_below hS5.1 (below_alloc _ _), cell_below hS5.2 (below_alloc _ _)⟩) (first | (go_at_call 67; refine (HIT.out _ (by first | exact HH1.out.1 | exact below_drew1 HH1.out.1)).mono ?_; rintro e w2 ⟨rfl, C2⟩; have HC2 : Hid (Below w1.heap.size w1 w2) := keepH (by first | exact C2 | exact ⟨C2.os, C2.tape, C2.output, C2.size, C2.block⟩); have hS5 : w2.cell? ⟨B, 0, none⟩ = some (.int .i64 th) ∧ w2.cell? ⟨tb, 20, none⟩ = some (.string sw) := ⟨cell_below HS0.out.1 HC2.out, cell_below HS0.out.2 HC2.out⟩; clear C2))
  all_goals (
    obtain ⟨w3, hw3⟩ : ∃ w3, w3 = w2.alloc (.cells #[.string si, .string sw] 9) := ⟨_, rfl⟩
    rw [← hw3]
    have D3 : Below w1.heap.size w1 w3 := by rw [hw3]; exact below_chain HC2.out (below_alloc _ _)
    have B3 := below_chain HH1.out.1 D3
    have X3 := heap_below HH1.out.2.1 D3
    have F3 := HH1.out.2.2.1.on D3
    have R3 : w3.ownsRow 0 9 1 (.slice (some ⟨w2.heap.size, 0, none⟩) 2 2) 2 (strsRow [Lib.itoa th, wordL 5]) := by rw [hw3, HSI.out, HSW.out]; exact row2 _ _ _
    have hg : W.heap.size ≤ w2.heap.size := Nat.le_trans HH1.out.1.size HC2.out.size
    obtain ⟨g, hgg⟩ : ∃ g, g = w2.heap.size := ⟨_, rfl⟩
    rw [← hgg] at hg R3 ⊢
    have HP : Hid (∀ w4, NumsAt w3 w4 #[.pointer (some ⟨B, 2, none⟩)] → PQ W tb B w3.heap.size #[.int .i64 th, .int .u8 5, .int .u64 (ad : Int), .int .u64 (a : Int), .int .u64 (b : Int), .slice p n c, .int .u64 (got : Int), .bool ok] #[.pointer (some ⟨B, 2, none⟩)] (pfK th 5 [ad] 0) (.slice (some ⟨g, 0, none⟩) 2 2) w4) := keepH (fun w4 hn => PQ.start HB.out B3 X3 F3 HH1.out.2.2.2 R3 (fun b hb => by simp [Value.ownBlock] at hb; omega) hn)
    have fk : w3.cell? ⟨tb, 21, none⟩ = some (.func (.func 49) #[] #[]) := cell_of F3 21
    have hn := f_n5 B w3
    clear hw3 D3 B3 X3 F3 R3 hg hgg
    go_wp2_with fail
    refine hn.mono ?_
    rintro e w4 ⟨rfl, hN⟩
    have HI0 := keepH (HP.out w4 hN)
    obtain ⟨nb, hnb⟩ : ∃ nb, nb = w3.heap.size := ⟨_, rfl⟩
    rw [← hnb] at HI0 ⊢
    clear hnb hN hn fk HP hS5
    go_wp2_with fail
    go_loopw [6, 8, 30] (fun s6 s8 s30 wr => ∃ i : Nat, i ≤ 1 ∧ s30 = .int .i64 (i : Int) ∧ Hid (PQ W tb B nb #[.int .i64 th, .int .u8 5, .int .u64 (ad : Int), .int .u64 (a : Int), .int .u64 (b : Int), .slice p n c, .int .u64 (got : Int), .bool ok] #[.pointer (some ⟨B, 2, none⟩)] (pfK th 5 [ad] i) s6 wr)) (fun _ _ s30 _ => 1 - (intOf s30).toNat)
    case atStart => exact ⟨0, by omega, rfl, HI0⟩
    case round =>
     obtain ⟨i, hii, rfl, HI⟩ := hrel
     by_cases hlt : i < 1
     · have hcase : i = 0 := by omega
       clear hlt hii
       rcases hcase with rfl
       · have x0 : wr.cell? ⟨nb, 0, none⟩ = some (.pointer (some ⟨B, 2, none⟩)) := cell_of HI.out.ri.row 0
         have x1 : wr.cell? ⟨B, 2, none⟩ = some (.int .u64 (ad : Int)) := cell_of HI.out.ri.box 2
         have hd := dec_any ad (by assumption) wr (HT.out.on HI.out.ri.bel)
         obtain ⟨sr, hsr⟩ : ∃ s, s = mkS (Lib.decDigits ad) := ⟨_, rfl⟩
         rw [← hsr] at hd
         have HSR := keepH hsr
         clear hsr
         go_wp2_with fail
         refine hd.mono ?_
         rintro e w4 ⟨rfl, C4⟩
         have H4 := keepH (HI.out.on C4)
         obtain ⟨fs, hfs⟩ : ∃ fs, fs = pfK th 5 [ad] 0 := ⟨_, rfl⟩
         rw [← hfs] at H4
         have hnl : fs.length = 2 := by rw [hfs]; rfl
         obtain ⟨nl, hnl2⟩ : ∃ nl, nl = fs.length := ⟨_, rfl⟩
         have HRW : Hid (w4.ownsRow 0 9 1 u6 nl (strsRow fs)) := by rw [hnl2]; exact H4.out.row
         have hn6 : nl ≤ 10 := by omega
         have HFS := keepH hfs
         have HNL := keepH hnl2
         clear hfs hnl hnl2 C4 x0 x1 hd
         go_wp2_with (first | (at_builtin; refine wpList_append_own_at _ rfl _ _ 136 rfl 0 9 i0 (.string ⟨#[]⟩) 1 16 Tryz.underlying136 hi hz0 hz1 hz2 rfl (by decide) u6 nl (strsRow fs) rfl (HRW.out.alloc _) ⟨w4.heap.size, 0, none⟩ 1 1 [.string sr] rfl rfl (cells_newR _ _ rfl _ _) (by intro u hu; simp at hu; rcases hu with rfl; rfl) (by unfold maxLen; omega) (by omega) (Nat.zero_le _) ?_; intro v2 w5 r1 r2 r3 r4; have R1 := keepH r1; have R2 := keepH r2; have R4 := keepH r4; clear r1 r2 r3 r4) | go_in)
         have HN : Hid (PQ W tb B nb #[.int .i64 th, .int .u8 5, .int .u64 (ad : Int), .int .u64 (a : Int), .int .u64 (b : Int), .slice p n c, .int .u64 (got : Int), .bool ok] #[.pointer (some ⟨B, 2, none⟩)] (pfK th 5 [ad] 1) v2 w5) := keepH (by
           rw [pfK_succ th 5 (show [ad][0]? = some ad from rfl), ← HFS.out]
           exact H4.out.more (by rw [← HSR.out, ← HNL.out]; exact R1.out) R2.out R4.out)
         go_roundw
         case rel => exact ⟨1, by omega, by first | rfl | go_num, HN⟩
         case measure => simp [intOf]
     · obtain rfl : i = 1 := by omega
       clear hlt hii
       rw [show ((1 : Nat) : Int) = 1 from rfl]
       have f2 : wr.cell? ⟨tb, 22, none⟩ = some (.bool false) := cell_of HI.out.ri.frm 22
       have x5 : wr.cell? ⟨B, 5, none⟩ = some (.slice p n c) := cell_of HI.out.ri.box 5
       have HI2 : Hid (PQ W tb B nb #[.int .i64 th, .int .u8 5, .int .u64 (ad : Int), .int .u64 (a : Int), .int .u64 (b : Int), .slice p n c, .int .u64 (got : Int), .bool ok] #[.pointer (some ⟨B, 2, none⟩)] (pvK (pfK th 5 [ad] 1) vals 0) u6 wr) := keepH (by have e := HI.out; simpa [pvK] using e)
       go_wp2_with fail
       clear x5
       go_loopw [6, 10, 55] (fun s6 s10 s55 wx => ∃ j : Nat, j ≤ n ∧ s55 = .int .i64 (j : Int) ∧ Hid (PQ W tb B nb #[.int .i64 th, .int .u8 5, .int .u64 (ad : Int), .int .u64 (a : Int), .int .u64 (b : Int), .slice p n c, .int .u64 (got : Int), .bool ok] #[.pointer (some ⟨B, 2, none⟩)] (pvK (pfK th 5 [ad] 1) vals j) s6 wx)) (fun _ _ s55 _ => n - (intOf s55).toNat)
       case atStart => exact ⟨0, by omega, rfl, HI2⟩
       case round =>
         obtain ⟨j, hj, rfl, HJ⟩ := hrel
         by_cases hlt : j < n
         · have q1 : (j : Int) < (n : Int) := by omega
           have q0 : (0 : Int) ≤ (j : Int) := by omega
           obtain ⟨u, hu⟩ : ∃ u, vals[j]? = some u := ⟨vals[j]'(by rw [← HN.out]; exact hlt), List.getElem?_eq_getElem _⟩
           have hud := HV.out u (List.mem_of_getElem? hu)
           obtain ⟨bk, off, rfl, _, c0⟩ := (HU.out.on HJ.out.ri.bel).get j u hu
           have hd := dec_any u hud wr (HT.out.on HJ.out.ri.bel)
           obtain ⟨sr, hsr⟩ : ∃ s, s = mkS (Lib.decDigits u) := ⟨_, rfl⟩
           rw [← hsr] at hd
           have HSR := keepH hsr
           have HUX := keepH hu
           clear hsr hu hud
           go_wp2_with fail
           refine hd.mono ?_
           rintro e w4 ⟨rfl, C4⟩
           have H4 := keepH (HJ.out.on C4)
           obtain ⟨fs, hfs⟩ : ∃ fs, fs = pvK (pfK th 5 [ad] 1) vals j := ⟨_, rfl⟩
           rw [← hfs] at H4
           have hnl : fs.length ≤ 10 + n := by rw [hfs]; unfold pvK pfK; simp; omega
           obtain ⟨nl, hnl2⟩ : ∃ nl, nl = fs.length := ⟨_, rfl⟩
           have HRW : Hid (w4.ownsRow 0 9 1 u6 nl (strsRow fs)) := by rw [hnl2]; exact H4.out.row
           have hn6 : nl ≤ 10 + n := by omega
           have HFS := keepH hfs
           have HNL := keepH hnl2
           clear hfs hnl hnl2 C4 hd c0
           go_wp2_with (first | (at_builtin; refine wpList_append_own_at _ rfl _ _ 136 rfl 0 9 i0 (.string ⟨#[]⟩) 1 16 Tryz.underlying136 hi hz0 hz1 hz2 rfl (by decide) u6 nl (strsRow fs) rfl (HRW.out.alloc _) ⟨w4.heap.size, 0, none⟩ 1 1 [.string sr] rfl rfl (cells_newR _ _ rfl _ _) (by intro u hu; simp at hu; rcases hu with rfl; rfl) (by unfold maxLen; omega) (by omega) (Nat.zero_le _) ?_; intro v2 w5 r1 r2 r3 r4; have R1 := keepH r1; have R2 := keepH r2; have R4 := keepH r4; clear r1 r2 r3 r4) | go_in)
           have hx := H4.out.more (by rw [← HSR.out, ← HNL.out]; exact R1.out) R2.out R4.out
           rw [HFS.out, ← pvK_succ _ HUX.out] at hx
           have HX := keepH hx
           clear hx
           go_roundw
           case rel => exact ⟨j + 1, by omega, by first | rfl | go_num, HX⟩
           case measure => simp [intOf]; omega
         · have q1 : ¬ (j : Int) < (n : Int) := by omega
           obtain rfl : j = n := by omega
           obtain ⟨fs, hfs⟩ : ∃ fs, fs = pvK (pfK th 5 [ad] 1) vals j := ⟨_, rfl⟩
           rw [← hfs] at HJ
           have hp : fs = partsL ⟨th, 5, ad, a, b, vals, got, ok⟩ := by
             rw [hfs]; unfold pvK pfK partsL numsL
             rw [List.take_of_length_le (Nat.le_of_eq HN.out.symm)]
             simp
           have hlen : (Lib.join fs [32]).length ≤ 140737488355328 := by
             refine Nat.le_trans (join_len (M := 21) fs (fun f hf => ?_)) ?_
             · rw [hp] at hf
               unfold partsL at hf
               rcases List.mem_cons.mp hf with rfl | hf
               · exact Lib.itoa_length_le _ HTH.out.1 (by have := HTH.out.2; simp only; omega)
               rcases List.mem_cons.mp hf with rfl | hf
               · simp [wordL]
               rcases List.mem_append.mp hf with hf | hf
               · obtain ⟨m, hm, rfl⟩ := List.mem_map.mp hf
                 refine dec_len ?_
                 simp [numsL] at hm
                 rcases hm with rfl <;> assumption
               rcases List.mem_append.mp hf with hf | hf
               · simp at hf
               · obtain ⟨m, hm, rfl⟩ := List.mem_map.mp hf
                 exact dec_len (HV.out m hm)
             · have : fs.length ≤ 10 + j := by rw [hfs]; unfold pvK pfK; simp; omega
               omega
           obtain ⟨g, cg, rfl, hg, hcg, hcl⟩ := row_slice HJ.out.row (by rw [hfs]; unfold pvK pfK; simp)
           have hjn := join_any g cg fs wr hcl hg (by have : fs.length ≤ 10 + j := (by rw [hfs]; unfold pvK pfK; simp; omega); omega) hcg hlen
           obtain ⟨sj, hsj⟩ : ∃ s, s = mkS (Lib.join fs [32]) := ⟨_, rfl⟩
           rw [← hsj] at hjn
           have HSJ : Hid (mkS (lineA ⟨th, 5, ad, a, b, vals, got, ok⟩) = sj) := keepH (by rw [hsj, hp]; rfl)
           obtain ⟨nf, hnf⟩ : ∃ nf, nf = fs.length := ⟨_, rfl⟩
           rw [← hnf] at hjn ⊢
           clear hsj hfs hp hlen hcl hnf
           go_wp2_with fail
           refine hjn.mono ?_
           rintro e w6 ⟨rfl, C6⟩
           have B6 := below_chain HJ.out.ri.bel C6
           go_wp2_with fail
           go_ret
           exact ⟨by rw [HSJ.out]; rfl, B6⟩
       )
end Go.Proofs.YtjodechhnobkhaaGreatDoor
