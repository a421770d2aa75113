/- fill: the parts behind the word, given to the fields of an access; by kind. (mkRpk.py) -/
import Derived.Test.YtdgagpcofghbaaaGreatDoorRpj
namespace Go.Proofs.YtdgagpcofghbaaaGreatDoor
open Go.RowKit Go.Shelf
set_option linter.unusedVariables false

abbrev bxA (x : Ax) (vs : Value) : Array Value := accC x.th x.kind x.addr x.a x.b vs x.got x.ok
structure FI (W : World) (tb B nb : Nat) (cs ps : Array Value) (wr : World) : Prop where
  chg : Chg (fun x => x = B) W wr
  box : wr.heap[B]? = some (.cells cs 36 (0, 0))
  row : wr.heap[nb]? = some (.cells ps 63 (0, 0))
  frm : IsForms wr tb
  ne : B ≠ nb
  nt : B ≠ tb
theorem FI.set {W : World} {tb B nb : Nat} {cs ps : Array Value} {wr : World} (h : FI W tb B nb cs ps wr) (i : Nat) (v : Value) : FI W tb B nb (cs.setIfInBounds i v) ps (wr.setCell ⟨B, i, none⟩ v) :=
  ⟨Chg.setCell h.chg (p := ⟨B, i, none⟩) (fun _ => rfl) _, set_of h.box i v, other_of h.row (Ne.symm h.ne) v, other_of h.frm (Ne.symm h.nt) v, h.ne, h.nt⟩
theorem FI.on {W : World} {tb B nb : Nat} {cs ps : Array Value} {wr w2 : World} (h : FI W tb B nb cs ps wr) (hb : Below wr.heap.size wr w2) : FI W tb B nb cs ps w2 :=
  ⟨h.chg.trans (belowC hb) (fun _ _ x => x) (fun _ _ x => x.elim), heap_below h.box hb, heap_below h.row hb, h.frm.on hb, h.ne, h.nt⟩
/-- fill: what it tells, and what it leaves -/
structure FlP (W : World) (B : Nat) (th : Int) (k : Nat) (fs : List (List UInt8)) (r : Bool) (W' : World) : Prop where
  chg : Chg (fun x => x = B) W W'
  yes : ∀ x, fillP th k fs = some x → r = true ∧ ∃ vs, W'.heap[B]? = some (.cells (bxA x vs) 36 (0, 0)) ∧ W'.ownsRow 0 33 1 vs x.vals.length (u64L x.vals) ∧ ∀ g, vs.ownBlock = some g → W.heap.size ≤ g
  no : fillP th k fs = none → r = false
def FlQ (W : World) (B : Nat) (th : Int) (k : Nat) (fs : List (List UInt8)) (v : Value) (W' : World) : Prop := ∃ r, v = .bool r ∧ FlP W B th k fs r W'
theorem fillP_eq {th : Int} {k : Nat} {fs : List (List UInt8)} {ns : List Nat} (hl : cntK k ≤ fs.length) (hn : natsP (fs.take (cntK k)) = some ns) : fillP th k fs = match tailP k (fs.drop (cntK k)) with | none => none | some q => some (putA th k ns q.1 q.2) := by
  unfold fillP
  rw [if_neg (by omega)]
  simp only [hn]
  cases tailP k (fs.drop (cntK k)) <;> rfl
theorem fillP_bad {th : Int} {k i : Nat} {fs : List (List UInt8)} {f : List UInt8} (hi : i < cntK k) (hf : fs[i]? = some f) (hn : natP f = none) : fillP th k fs = none := by
  unfold fillP
  split
  · rfl
  · have hm : f ∈ fs.take (cntK k) := by
      refine List.mem_of_getElem? (i := i) ?_
      rw [List.getElem?_take, if_pos hi]; exact hf
    rw [natsP_none hm hn]

set_option maxRecDepth 100000 in
set_option maxHeartbeats 4000000 in
theorem fill_1 (th : Int) (tb B c : Nat) (q : Option Addr) (fs : List (List UInt8)) (W : World) (hF : IsForms W tb) (hB : W.heap[B]? = some (.cells (accC th 1 0 0 0 (.slice none 0 0) 0 false) 36 (0, 0))) (hs : SRd W q fs) (hne : ∀ x, q = some x → x.block ≠ B) (hnt : B ≠ tb) (hl : fs.length ≤ 200000000) (hlc : fs.length ≤ c) (hfl : ∀ f ∈ fs, f.length ≤ 200000000) (hTB : ∀ w', Chg (fun x => x = B) W w' → Tb w') :
    Calls Tryz.prog 43 #[.pointer (some ⟨tb, 4, none⟩), .pointer (some ⟨B, 0, none⟩), .slice q fs.length c] W fun e W' => ∃ v, e = .returned v ∧ FlQ W B th 1 fs v W' := by
  obtain ⟨n, hn⟩ : ∃ n, n = fs.length := ⟨_, rfl⟩
  rw [← hn] at hl hlc ⊢
  have fk : W.cell? ⟨tb, 5, none⟩ = some (.func (.func 26) #[] #[]) := cell_of hF 5
  have hnum := f_n1 B W
  have HN := keepH hn
  have HS := keepH hs
  have HNE := keepH hne
  have HTB := keepH hTB
  have HFL := keepH hfl
  have HI0 : Hid (∀ w1, NumsAt W w1 #[.pointer (some ⟨B, 2, none⟩), .pointer (some ⟨B, 6, none⟩)] → FI W tb B W.heap.size (bxA (putA th 1 [] false []) (.slice none 0 0)) #[.pointer (some ⟨B, 2, none⟩), .pointer (some ⟨B, 6, none⟩)] w1) := keepH (fun w1 h => ⟨(belowC h.2.2).mono (fun _ _ x => x.elim), heap_below hB h.2.2, h.1, hF.on h.2.2, by have := lt_of hB; omega, hnt⟩)
  clear hn hs hne hTB hfl hF hB hnt
  by_cases hlen : n < 2
  · have q1 : (n : Int) < 2 := by omega
    go_enter Tryz.func43, Tryz.ntmps43
    go_wp2_with fail
    refine hnum.mono ?_
    rintro e w1 ⟨rfl, hN⟩
    have HX := keepH (HI0.out w1 hN)
    clear hN
    go_wp2_with fail
    go_ret
    refine ⟨_, rfl, false, rfl, HX.out.chg, fun x e => ?_, fun _ => rfl⟩
    have e2 : fillP th 1 fs = none := by unfold fillP; rw [if_pos (by rw [← HN.out]; exact hlen)]
    rw [e2] at e
    cases e
  · have q1 : ¬ (n : Int) < 2 := by omega
    go_enter Tryz.func43, Tryz.ntmps43
    go_wp2_with fail
    refine hnum.mono ?_
    rintro e w1 ⟨rfl, hN⟩
    have HX := keepH (HI0.out w1 hN)
    obtain ⟨nb, hnb⟩ : ∃ nb, nb = W.heap.size := ⟨_, rfl⟩
    rw [← hnb] at HX ⊢
    clear hN hnb fk hnum HI0
    go_wp2_with fail
    go_loopw [8, 9, 10, 11, 26] (fun s8 s9 s10 s11 s26 wr => ∃ (i : Nat) (ns : List Nat), i ≤ 2 ∧ s26 = .int .i64 (i : Int) ∧ Hid (FI W tb B nb (bxA (putA th 1 ns false []) (.slice none 0 0)) #[.pointer (some ⟨B, 2, none⟩), .pointer (some ⟨B, 6, none⟩)] wr ∧ natsP (fs.take i) = some ns ∧ ns.length = i)) (fun _ _ _ _ s26 _ => 2 - (intOf s26).toNat)
    case atStart => exact ⟨0, [], by omega, rfl, keepH ⟨HX.out, rfl, rfl⟩⟩
    case round =>
     obtain ⟨i, ns, hii, rfl, HI⟩ := hrel
     by_cases hlt : i < 2
     · have hcase : i = 0 ∨ i = 1 := by omega
       clear hlt hii
       rcases hcase with rfl | rfl
       · 
         obtain rfl : ns = [] := List.eq_nil_of_length_eq_zero HI.out.2.2
         obtain ⟨f, hf⟩ : ∃ f, fs[0]? = some f := ⟨fs[0]'(by rw [← HN.out]; omega), List.getElem?_eq_getElem _⟩
         obtain ⟨fb, off, rfl, _, hc⟩ := HS.out.chg HI.out.1.chg HNE.out
         have c0 : wr.cell? ⟨fb, off, none⟩ = some (.string (mkS f)) := hc 0 f hf
         have x0 : wr.cell? ⟨nb, 0, none⟩ = some (.pointer (some ⟨B, 2, none⟩)) := cell_of HI.out.1.row 0
         have hna := natural_any f (HFL.out f (List.mem_of_getElem? hf)) wr (HTB.out wr HI.out.1.chg)
         have q1 : (0 : Int) < (n : Int) := by omega
         obtain ⟨s, hs⟩ : ∃ s, s = mkS f := ⟨_, rfl⟩
         rw [← hs] at c0 hna
         have HF := keepH hf
         clear hs hf hc
         rw [show ((0 : Nat) : Int) = 0 from rfl]
         go_wp2_with fail
         refine hna.mono ?_
         rintro e w2 ⟨v, rfl, hv, C2⟩
         have H2 := keepH (HI.out.1.on C2)
         clear C2 hna c0 x0
         rcases hv with ⟨u, hu, rfl⟩ | ⟨hu, u, rfl⟩
         · have y0 : w2.cell? ⟨B, 2, none⟩ = some (.int .u64 0) := cell_of H2.out.box 2
           have y1 := free_of H2.out.box 2
           have HX : Hid (FI W tb B nb (bxA (putA th 1 [u] false []) (.slice none 0 0)) #[.pointer (some ⟨B, 2, none⟩), .pointer (some ⟨B, 6, none⟩)] (w2.setCell ⟨B, 2, none⟩ (.int .u64 (u : Int))) ∧ natsP (fs.take 1) = some [u] ∧ [u].length = 1) := keepH ⟨H2.out.set 2 (.int .u64 (u : Int)), natsP_take HI.out.2.1 HF.out hu, rfl⟩
           clear hu
           go_wp2_with fail
           go_roundw
           case rel => exact ⟨1, [u], by omega, by first | rfl | go_num, HX⟩
           case measure => simp [intOf]
         · have HU := keepH hu
           clear hu
           go_wp2_with fail
           go_ret
           refine ⟨_, rfl, false, rfl, H2.out.chg, fun x e => ?_, fun _ => rfl⟩
           rw [fillP_bad (by decide) HF.out HU.out] at e
           cases e
       · 
         obtain ⟨n0, rfl⟩ : ∃ n0, ns = [n0] := by
           have := HI.out.2.2
           match ns, this with
           | [n0], _ => exact ⟨n0, rfl⟩
         obtain ⟨f, hf⟩ : ∃ f, fs[1]? = some f := ⟨fs[1]'(by rw [← HN.out]; omega), List.getElem?_eq_getElem _⟩
         obtain ⟨fb, off, rfl, _, hc⟩ := HS.out.chg HI.out.1.chg HNE.out
         have c0 : wr.cell? ⟨fb, off + 1, none⟩ = some (.string (mkS f)) := hc 1 f hf
         have x0 : wr.cell? ⟨nb, 1, none⟩ = some (.pointer (some ⟨B, 6, none⟩)) := cell_of HI.out.1.row 1
         have hna := natural_any f (HFL.out f (List.mem_of_getElem? hf)) wr (HTB.out wr HI.out.1.chg)
         have q1 : (1 : Int) < (n : Int) := by omega
         obtain ⟨s, hs⟩ : ∃ s, s = mkS f := ⟨_, rfl⟩
         rw [← hs] at c0 hna
         have HF := keepH hf
         clear hs hf hc
         rw [show ((1 : Nat) : Int) = 1 from rfl]
         go_wp2_with fail
         refine hna.mono ?_
         rintro e w2 ⟨v, rfl, hv, C2⟩
         have H2 := keepH (HI.out.1.on C2)
         clear C2 hna c0 x0
         rcases hv with ⟨u, hu, rfl⟩ | ⟨hu, u, rfl⟩
         · have y0 : w2.cell? ⟨B, 6, none⟩ = some (.int .u64 0) := cell_of H2.out.box 6
           have y1 := free_of H2.out.box 6
           have HX : Hid (FI W tb B nb (bxA (putA th 1 [n0, u] false []) (.slice none 0 0)) #[.pointer (some ⟨B, 2, none⟩), .pointer (some ⟨B, 6, none⟩)] (w2.setCell ⟨B, 6, none⟩ (.int .u64 (u : Int))) ∧ natsP (fs.take 2) = some [n0, u] ∧ [n0, u].length = 2) := keepH ⟨H2.out.set 6 (.int .u64 (u : Int)), natsP_take HI.out.2.1 HF.out hu, rfl⟩
           clear hu
           go_wp2_with fail
           go_roundw
           case rel => exact ⟨2, [n0, u], by omega, by first | rfl | go_num, HX⟩
           case measure => simp [intOf]
         · have HU := keepH hu
           clear hu
           go_wp2_with fail
           go_ret
           refine ⟨_, rfl, false, rfl, H2.out.chg, fun x e => ?_, fun _ => rfl⟩
           rw [fillP_bad (by decide) HF.out HU.out] at e
           cases e
     · obtain rfl : i = 2 := by omega
       clear hlt hii
       rw [show ((2 : Nat) : Int) = 2 from rfl]
       obtain ⟨n0, n1, rfl⟩ : ∃ n0 n1, ns = [n0, n1] := by
         have := HI.out.2.2
         match ns, this with
         | [n0, n1], _ => exact ⟨n0, n1, rfl⟩
       have hfe : Hid (fillP th 1 fs = match tailP 1 (fs.drop 2) with | none => none | some q => some (putA th 1 [n0, n1] q.1 q.2)) := keepH (fillP_eq (k := 1) (by rw [← HN.out]; show 2 ≤ n; omega) HI.out.2.1)
       obtain ⟨ad, hsl0, hsd, had⟩ := slice_strs (i := 2) (HS.out.chg HI.out.1.chg HNE.out) HN.out hlc (by omega)
       have hsl : ∀ w, (Instr.slice 56 (.slice q n c) (some (.int .i64 2)) none none).run Tryz.prog w = .ok (.slice (some ad) (n - 2) (c - 2)) w := hsl0
       have hadne : ad.block ≠ B := by
         obtain ⟨fb, off, hq, _⟩ := HS.out
         rw [had _ hq]
         exact HNE.out _ hq
       have f2 : wr.cell? ⟨tb, 6, none⟩ = some (.bool false) := cell_of HI.out.1.frm 6
       have f3 : wr.cell? ⟨tb, 7, none⟩ = some (.bool false) := cell_of HI.out.1.frm 7
       clear hsl0 had
       have ht : tailP 1 (fs.drop 2) = if fs.drop 2 = [] then some (false, []) else none := by unfold tailP; rw [if_neg (by decide), if_neg (by decide)]
       have HTL := keepH ht
       have hdl : (fs.drop 2).length = n - 2 := by rw [List.length_drop, HN.out]
       obtain ⟨m, hm⟩ : ∃ m, m = n - 2 := ⟨_, rfl⟩
       rw [← hm] at hsl hdl
       have HDL := keepH hdl
       clear hsd hadne hm ht hdl
       by_cases hm0 : m = 0
       · subst hm0
         go_wp2_with fail
         go_ret
         have hnil : fs.drop 2 = [] := List.eq_nil_of_length_eq_zero HDL.out
         refine ⟨_, rfl, true, rfl, HI.out.1.chg, fun x e => ?_, fun e => ?_⟩
         · rw [hfe.out, HTL.out, if_pos hnil] at e
           injection e with e
           subst e
           exact ⟨rfl, .slice none 0 0, HI.out.1.box, World.ownsRow_nil _ _ _ _, fun g hg => by simp [Value.ownBlock] at hg⟩
         · rw [hfe.out, HTL.out, if_pos hnil] at e
           cases e
       · have qm : ((m : Int) == 0) = false := by simp; omega
         go_wp2_with fail
         go_ret
         have hnil : ¬ fs.drop 2 = [] := fun e => hm0 (by rw [← HDL.out, e]; rfl)
         refine ⟨_, rfl, false, rfl, HI.out.1.chg, fun x e => ?_, fun e => rfl⟩
         rw [hfe.out, HTL.out, if_neg hnil] at e
         cases e


set_option maxRecDepth 100000 in
set_option maxHeartbeats 4000000 in
theorem fill_2 (th : Int) (tb B c : Nat) (q : Option Addr) (fs : List (List UInt8)) (W : World) (hF : IsForms W tb) (hB : W.heap[B]? = some (.cells (accC th 2 0 0 0 (.slice none 0 0) 0 false) 36 (0, 0))) (hs : SRd W q fs) (hne : ∀ x, q = some x → x.block ≠ B) (hnt : B ≠ tb) (hl : fs.length ≤ 200000000) (hlc : fs.length ≤ c) (hfl : ∀ f ∈ fs, f.length ≤ 200000000) (hTB : ∀ w', Chg (fun x => x = B) W w' → Tb w') :
    Calls Tryz.prog 43 #[.pointer (some ⟨tb, 8, none⟩), .pointer (some ⟨B, 0, none⟩), .slice q fs.length c] W fun e W' => ∃ v, e = .returned v ∧ FlQ W B th 2 fs v W' := by
  obtain ⟨n, hn⟩ : ∃ n, n = fs.length := ⟨_, rfl⟩
  rw [← hn] at hl hlc ⊢
  have fk : W.cell? ⟨tb, 9, none⟩ = some (.func (.func 27) #[] #[]) := cell_of hF 9
  have hnum := f_n2 B W
  have HN := keepH hn
  have HS := keepH hs
  have HNE := keepH hne
  have HTB := keepH hTB
  have HFL := keepH hfl
  have HI0 : Hid (∀ w1, NumsAt W w1 #[.pointer (some ⟨B, 2, none⟩), .pointer (some ⟨B, 3, none⟩)] → FI W tb B W.heap.size (bxA (putA th 2 [] false []) (.slice none 0 0)) #[.pointer (some ⟨B, 2, none⟩), .pointer (some ⟨B, 3, none⟩)] w1) := keepH (fun w1 h => ⟨(belowC h.2.2).mono (fun _ _ x => x.elim), heap_below hB h.2.2, h.1, hF.on h.2.2, by have := lt_of hB; omega, hnt⟩)
  clear hn hs hne hTB hfl hF hB hnt
  by_cases hlen : n < 2
  · have q1 : (n : Int) < 2 := by omega
    go_enter Tryz.func43, Tryz.ntmps43
    go_wp2_with fail
    refine hnum.mono ?_
    rintro e w1 ⟨rfl, hN⟩
    have HX := keepH (HI0.out w1 hN)
    clear hN
    go_wp2_with fail
    go_ret
    refine ⟨_, rfl, false, rfl, HX.out.chg, fun x e => ?_, fun _ => rfl⟩
    have e2 : fillP th 2 fs = none := by unfold fillP; rw [if_pos (by rw [← HN.out]; exact hlen)]
    rw [e2] at e
    cases e
  · have q1 : ¬ (n : Int) < 2 := by omega
    go_enter Tryz.func43, Tryz.ntmps43
    go_wp2_with fail
    refine hnum.mono ?_
    rintro e w1 ⟨rfl, hN⟩
    have HX := keepH (HI0.out w1 hN)
    obtain ⟨nb, hnb⟩ : ∃ nb, nb = W.heap.size := ⟨_, rfl⟩
    rw [← hnb] at HX ⊢
    clear hN hnb fk hnum HI0
    go_wp2_with fail
    go_loopw [8, 9, 10, 11, 26] (fun s8 s9 s10 s11 s26 wr => ∃ (i : Nat) (ns : List Nat), i ≤ 2 ∧ s26 = .int .i64 (i : Int) ∧ Hid (FI W tb B nb (bxA (putA th 2 ns false []) (.slice none 0 0)) #[.pointer (some ⟨B, 2, none⟩), .pointer (some ⟨B, 3, none⟩)] wr ∧ natsP (fs.take i) = some ns ∧ ns.length = i)) (fun _ _ _ _ s26 _ => 2 - (intOf s26).toNat)
    case atStart => exact ⟨0, [], by omega, rfl, keepH ⟨HX.out, rfl, rfl⟩⟩
    case round =>
     obtain ⟨i, ns, hii, rfl, HI⟩ := hrel
     by_cases hlt : i < 2
     · have hcase : i = 0 ∨ i = 1 := by omega
       clear hlt hii
       rcases hcase with rfl | rfl
       · 
         obtain rfl : ns = [] := List.eq_nil_of_length_eq_zero HI.out.2.2
         obtain ⟨f, hf⟩ : ∃ f, fs[0]? = some f := ⟨fs[0]'(by rw [← HN.out]; omega), List.getElem?_eq_getElem _⟩
         obtain ⟨fb, off, rfl, _, hc⟩ := HS.out.chg HI.out.1.chg HNE.out
         have c0 : wr.cell? ⟨fb, off, none⟩ = some (.string (mkS f)) := hc 0 f hf
         have x0 : wr.cell? ⟨nb, 0, none⟩ = some (.pointer (some ⟨B, 2, none⟩)) := cell_of HI.out.1.row 0
         have hna := natural_any f (HFL.out f (List.mem_of_getElem? hf)) wr (HTB.out wr HI.out.1.chg)
         have q1 : (0 : Int) < (n : Int) := by omega
         obtain ⟨s, hs⟩ : ∃ s, s = mkS f := ⟨_, rfl⟩
         rw [← hs] at c0 hna
         have HF := keepH hf
         clear hs hf hc
         rw [show ((0 : Nat) : Int) = 0 from rfl]
         go_wp2_with fail
         refine hna.mono ?_
         rintro e w2 ⟨v, rfl, hv, C2⟩
         have H2 := keepH (HI.out.1.on C2)
         clear C2 hna c0 x0
         rcases hv with ⟨u, hu, rfl⟩ | ⟨hu, u, rfl⟩
         · have y0 : w2.cell? ⟨B, 2, none⟩ = some (.int .u64 0) := cell_of H2.out.box 2
           have y1 := free_of H2.out.box 2
           have HX : Hid (FI W tb B nb (bxA (putA th 2 [u] false []) (.slice none 0 0)) #[.pointer (some ⟨B, 2, none⟩), .pointer (some ⟨B, 3, none⟩)] (w2.setCell ⟨B, 2, none⟩ (.int .u64 (u : Int))) ∧ natsP (fs.take 1) = some [u] ∧ [u].length = 1) := keepH ⟨H2.out.set 2 (.int .u64 (u : Int)), natsP_take HI.out.2.1 HF.out hu, rfl⟩
           clear hu
           go_wp2_with fail
           go_roundw
           case rel => exact ⟨1, [u], by omega, by first | rfl | go_num, HX⟩
           case measure => simp [intOf]
         · have HU := keepH hu
           clear hu
           go_wp2_with fail
           go_ret
           refine ⟨_, rfl, false, rfl, H2.out.chg, fun x e => ?_, fun _ => rfl⟩
           rw [fillP_bad (by decide) HF.out HU.out] at e
           cases e
       · 
         obtain ⟨n0, rfl⟩ : ∃ n0, ns = [n0] := by
           have := HI.out.2.2
           match ns, this with
           | [n0], _ => exact ⟨n0, rfl⟩
         obtain ⟨f, hf⟩ : ∃ f, fs[1]? = some f := ⟨fs[1]'(by rw [← HN.out]; omega), List.getElem?_eq_getElem _⟩
         obtain ⟨fb, off, rfl, _, hc⟩ := HS.out.chg HI.out.1.chg HNE.out
         have c0 : wr.cell? ⟨fb, off + 1, none⟩ = some (.string (mkS f)) := hc 1 f hf
         have x0 : wr.cell? ⟨nb, 1, none⟩ = some (.pointer (some ⟨B, 3, none⟩)) := cell_of HI.out.1.row 1
         have hna := natural_any f (HFL.out f (List.mem_of_getElem? hf)) wr (HTB.out wr HI.out.1.chg)
         have q1 : (1 : Int) < (n : Int) := by omega
         obtain ⟨s, hs⟩ : ∃ s, s = mkS f := ⟨_, rfl⟩
         rw [← hs] at c0 hna
         have HF := keepH hf
         clear hs hf hc
         rw [show ((1 : Nat) : Int) = 1 from rfl]
         go_wp2_with fail
         refine hna.mono ?_
         rintro e w2 ⟨v, rfl, hv, C2⟩
         have H2 := keepH (HI.out.1.on C2)
         clear C2 hna c0 x0
         rcases hv with ⟨u, hu, rfl⟩ | ⟨hu, u, rfl⟩
         · have y0 : w2.cell? ⟨B, 3, none⟩ = some (.int .u64 0) := cell_of H2.out.box 3
           have y1 := free_of H2.out.box 3
           have HX : Hid (FI W tb B nb (bxA (putA th 2 [n0, u] false []) (.slice none 0 0)) #[.pointer (some ⟨B, 2, none⟩), .pointer (some ⟨B, 3, none⟩)] (w2.setCell ⟨B, 3, none⟩ (.int .u64 (u : Int))) ∧ natsP (fs.take 2) = some [n0, u] ∧ [n0, u].length = 2) := keepH ⟨H2.out.set 3 (.int .u64 (u : Int)), natsP_take HI.out.2.1 HF.out hu, rfl⟩
           clear hu
           go_wp2_with fail
           go_roundw
           case rel => exact ⟨2, [n0, u], by omega, by first | rfl | go_num, HX⟩
           case measure => simp [intOf]
         · have HU := keepH hu
           clear hu
           go_wp2_with fail
           go_ret
           refine ⟨_, rfl, false, rfl, H2.out.chg, fun x e => ?_, fun _ => rfl⟩
           rw [fillP_bad (by decide) HF.out HU.out] at e
           cases e
     · obtain rfl : i = 2 := by omega
       clear hlt hii
       rw [show ((2 : Nat) : Int) = 2 from rfl]
       obtain ⟨n0, n1, rfl⟩ : ∃ n0 n1, ns = [n0, n1] := by
         have := HI.out.2.2
         match ns, this with
         | [n0, n1], _ => exact ⟨n0, n1, rfl⟩
       have hfe : Hid (fillP th 2 fs = match tailP 2 (fs.drop 2) with | none => none | some q => some (putA th 2 [n0, n1] q.1 q.2)) := keepH (fillP_eq (k := 2) (by rw [← HN.out]; show 2 ≤ n; omega) HI.out.2.1)
       obtain ⟨ad, hsl0, hsd, had⟩ := slice_strs (i := 2) (HS.out.chg HI.out.1.chg HNE.out) HN.out hlc (by omega)
       have hsl : ∀ w, (Instr.slice 56 (.slice q n c) (some (.int .i64 2)) none none).run Tryz.prog w = .ok (.slice (some ad) (n - 2) (c - 2)) w := hsl0
       have hadne : ad.block ≠ B := by
         obtain ⟨fb, off, hq, _⟩ := HS.out
         rw [had _ hq]
         exact HNE.out _ hq
       have f2 : wr.cell? ⟨tb, 10, none⟩ = some (.bool false) := cell_of HI.out.1.frm 10
       have f3 : wr.cell? ⟨tb, 11, none⟩ = some (.bool false) := cell_of HI.out.1.frm 11
       clear hsl0 had
       have ht : tailP 2 (fs.drop 2) = if fs.drop 2 = [] then some (false, []) else none := by unfold tailP; rw [if_neg (by decide), if_neg (by decide)]
       have HTL := keepH ht
       have hdl : (fs.drop 2).length = n - 2 := by rw [List.length_drop, HN.out]
       obtain ⟨m, hm⟩ : ∃ m, m = n - 2 := ⟨_, rfl⟩
       rw [← hm] at hsl hdl
       have HDL := keepH hdl
       clear hsd hadne hm ht hdl
       by_cases hm0 : m = 0
       · subst hm0
         go_wp2_with fail
         go_ret
         have hnil : fs.drop 2 = [] := List.eq_nil_of_length_eq_zero HDL.out
         refine ⟨_, rfl, true, rfl, HI.out.1.chg, fun x e => ?_, fun e => ?_⟩
         · rw [hfe.out, HTL.out, if_pos hnil] at e
           injection e with e
           subst e
           exact ⟨rfl, .slice none 0 0, HI.out.1.box, World.ownsRow_nil _ _ _ _, fun g hg => by simp [Value.ownBlock] at hg⟩
         · rw [hfe.out, HTL.out, if_pos hnil] at e
           cases e
       · have qm : ((m : Int) == 0) = false := by simp; omega
         go_wp2_with fail
         go_ret
         have hnil : ¬ fs.drop 2 = [] := fun e => hm0 (by rw [← HDL.out, e]; rfl)
         refine ⟨_, rfl, false, rfl, HI.out.1.chg, fun x e => ?_, fun e => rfl⟩
         rw [hfe.out, HTL.out, if_neg hnil] at e
         cases e


set_option maxRecDepth 100000 in
set_option maxHeartbeats 4000000 in
theorem fill_3 (th : Int) (tb B c : Nat) (q : Option Addr) (fs : List (List UInt8)) (W : World) (hF : IsForms W tb) (hB : W.heap[B]? = some (.cells (accC th 3 0 0 0 (.slice none 0 0) 0 false) 36 (0, 0))) (hs : SRd W q fs) (hne : ∀ x, q = some x → x.block ≠ B) (hnt : B ≠ tb) (hl : fs.length ≤ 200000000) (hlc : fs.length ≤ c) (hfl : ∀ f ∈ fs, f.length ≤ 200000000) (hTB : ∀ w', Chg (fun x => x = B) W w' → Tb w') :
    Calls Tryz.prog 43 #[.pointer (some ⟨tb, 12, none⟩), .pointer (some ⟨B, 0, none⟩), .slice q fs.length c] W fun e W' => ∃ v, e = .returned v ∧ FlQ W B th 3 fs v W' := by
  obtain ⟨n, hn⟩ : ∃ n, n = fs.length := ⟨_, rfl⟩
  rw [← hn] at hl hlc ⊢
  have fk : W.cell? ⟨tb, 13, none⟩ = some (.func (.func 28) #[] #[]) := cell_of hF 13
  have hnum := f_n3 B W
  have HN := keepH hn
  have HS := keepH hs
  have HNE := keepH hne
  have HTB := keepH hTB
  have HFL := keepH hfl
  have HI0 : Hid (∀ w1, NumsAt W w1 #[.pointer (some ⟨B, 2, none⟩), .pointer (some ⟨B, 3, none⟩), .pointer (some ⟨B, 4, none⟩)] → FI W tb B W.heap.size (bxA (putA th 3 [] false []) (.slice none 0 0)) #[.pointer (some ⟨B, 2, none⟩), .pointer (some ⟨B, 3, none⟩), .pointer (some ⟨B, 4, none⟩)] w1) := keepH (fun w1 h => ⟨(belowC h.2.2).mono (fun _ _ x => x.elim), heap_below hB h.2.2, h.1, hF.on h.2.2, by have := lt_of hB; omega, hnt⟩)
  clear hn hs hne hTB hfl hF hB hnt
  by_cases hlen : n < 3
  · have q1 : (n : Int) < 3 := by omega
    go_enter Tryz.func43, Tryz.ntmps43
    go_wp2_with fail
    refine hnum.mono ?_
    rintro e w1 ⟨rfl, hN⟩
    have HX := keepH (HI0.out w1 hN)
    clear hN
    go_wp2_with fail
    go_ret
    refine ⟨_, rfl, false, rfl, HX.out.chg, fun x e => ?_, fun _ => rfl⟩
    have e2 : fillP th 3 fs = none := by unfold fillP; rw [if_pos (by rw [← HN.out]; exact hlen)]
    rw [e2] at e
    cases e
  · have q1 : ¬ (n : Int) < 3 := by omega
    go_enter Tryz.func43, Tryz.ntmps43
    go_wp2_with fail
    refine hnum.mono ?_
    rintro e w1 ⟨rfl, hN⟩
    have HX := keepH (HI0.out w1 hN)
    obtain ⟨nb, hnb⟩ : ∃ nb, nb = W.heap.size := ⟨_, rfl⟩
    rw [← hnb] at HX ⊢
    clear hN hnb fk hnum HI0
    go_wp2_with fail
    go_loopw [8, 9, 10, 11, 26] (fun s8 s9 s10 s11 s26 wr => ∃ (i : Nat) (ns : List Nat), i ≤ 3 ∧ s26 = .int .i64 (i : Int) ∧ Hid (FI W tb B nb (bxA (putA th 3 ns false []) (.slice none 0 0)) #[.pointer (some ⟨B, 2, none⟩), .pointer (some ⟨B, 3, none⟩), .pointer (some ⟨B, 4, none⟩)] wr ∧ natsP (fs.take i) = some ns ∧ ns.length = i)) (fun _ _ _ _ s26 _ => 3 - (intOf s26).toNat)
    case atStart => exact ⟨0, [], by omega, rfl, keepH ⟨HX.out, rfl, rfl⟩⟩
    case round =>
     obtain ⟨i, ns, hii, rfl, HI⟩ := hrel
     by_cases hlt : i < 3
     · have hcase : i = 0 ∨ i = 1 ∨ i = 2 := by omega
       clear hlt hii
       rcases hcase with rfl | rfl | rfl
       · 
         obtain rfl : ns = [] := List.eq_nil_of_length_eq_zero HI.out.2.2
         obtain ⟨f, hf⟩ : ∃ f, fs[0]? = some f := ⟨fs[0]'(by rw [← HN.out]; omega), List.getElem?_eq_getElem _⟩
         obtain ⟨fb, off, rfl, _, hc⟩ := HS.out.chg HI.out.1.chg HNE.out
         have c0 : wr.cell? ⟨fb, off, none⟩ = some (.string (mkS f)) := hc 0 f hf
         have x0 : wr.cell? ⟨nb, 0, none⟩ = some (.pointer (some ⟨B, 2, none⟩)) := cell_of HI.out.1.row 0
         have hna := natural_any f (HFL.out f (List.mem_of_getElem? hf)) wr (HTB.out wr HI.out.1.chg)
         have q1 : (0 : Int) < (n : Int) := by omega
         obtain ⟨s, hs⟩ : ∃ s, s = mkS f := ⟨_, rfl⟩
         rw [← hs] at c0 hna
         have HF := keepH hf
         clear hs hf hc
         rw [show ((0 : Nat) : Int) = 0 from rfl]
         go_wp2_with fail
         refine hna.mono ?_
         rintro e w2 ⟨v, rfl, hv, C2⟩
         have H2 := keepH (HI.out.1.on C2)
         clear C2 hna c0 x0
         rcases hv with ⟨u, hu, rfl⟩ | ⟨hu, u, rfl⟩
         · have y0 : w2.cell? ⟨B, 2, none⟩ = some (.int .u64 0) := cell_of H2.out.box 2
           have y1 := free_of H2.out.box 2
           have HX : Hid (FI W tb B nb (bxA (putA th 3 [u] false []) (.slice none 0 0)) #[.pointer (some ⟨B, 2, none⟩), .pointer (some ⟨B, 3, none⟩), .pointer (some ⟨B, 4, none⟩)] (w2.setCell ⟨B, 2, none⟩ (.int .u64 (u : Int))) ∧ natsP (fs.take 1) = some [u] ∧ [u].length = 1) := keepH ⟨H2.out.set 2 (.int .u64 (u : Int)), natsP_take HI.out.2.1 HF.out hu, rfl⟩
           clear hu
           go_wp2_with fail
           go_roundw
           case rel => exact ⟨1, [u], by omega, by first | rfl | go_num, HX⟩
           case measure => simp [intOf]
         · have HU := keepH hu
           clear hu
           go_wp2_with fail
           go_ret
           refine ⟨_, rfl, false, rfl, H2.out.chg, fun x e => ?_, fun _ => rfl⟩
           rw [fillP_bad (by decide) HF.out HU.out] at e
           cases e
       · 
         obtain ⟨n0, rfl⟩ : ∃ n0, ns = [n0] := by
           have := HI.out.2.2
           match ns, this with
           | [n0], _ => exact ⟨n0, rfl⟩
         obtain ⟨f, hf⟩ : ∃ f, fs[1]? = some f := ⟨fs[1]'(by rw [← HN.out]; omega), List.getElem?_eq_getElem _⟩
         obtain ⟨fb, off, rfl, _, hc⟩ := HS.out.chg HI.out.1.chg HNE.out
         have c0 : wr.cell? ⟨fb, off + 1, none⟩ = some (.string (mkS f)) := hc 1 f hf
         have x0 : wr.cell? ⟨nb, 1, none⟩ = some (.pointer (some ⟨B, 3, none⟩)) := cell_of HI.out.1.row 1
         have hna := natural_any f (HFL.out f (List.mem_of_getElem? hf)) wr (HTB.out wr HI.out.1.chg)
         have q1 : (1 : Int) < (n : Int) := by omega
         obtain ⟨s, hs⟩ : ∃ s, s = mkS f := ⟨_, rfl⟩
         rw [← hs] at c0 hna
         have HF := keepH hf
         clear hs hf hc
         rw [show ((1 : Nat) : Int) = 1 from rfl]
         go_wp2_with fail
         refine hna.mono ?_
         rintro e w2 ⟨v, rfl, hv, C2⟩
         have H2 := keepH (HI.out.1.on C2)
         clear C2 hna c0 x0
         rcases hv with ⟨u, hu, rfl⟩ | ⟨hu, u, rfl⟩
         · have y0 : w2.cell? ⟨B, 3, none⟩ = some (.int .u64 0) := cell_of H2.out.box 3
           have y1 := free_of H2.out.box 3
           have HX : Hid (FI W tb B nb (bxA (putA th 3 [n0, u] false []) (.slice none 0 0)) #[.pointer (some ⟨B, 2, none⟩), .pointer (some ⟨B, 3, none⟩), .pointer (some ⟨B, 4, none⟩)] (w2.setCell ⟨B, 3, none⟩ (.int .u64 (u : Int))) ∧ natsP (fs.take 2) = some [n0, u] ∧ [n0, u].length = 2) := keepH ⟨H2.out.set 3 (.int .u64 (u : Int)), natsP_take HI.out.2.1 HF.out hu, rfl⟩
           clear hu
           go_wp2_with fail
           go_roundw
           case rel => exact ⟨2, [n0, u], by omega, by first | rfl | go_num, HX⟩
           case measure => simp [intOf]
         · have HU := keepH hu
           clear hu
           go_wp2_with fail
           go_ret
           refine ⟨_, rfl, false, rfl, H2.out.chg, fun x e => ?_, fun _ => rfl⟩
           rw [fillP_bad (by decide) HF.out HU.out] at e
           cases e
       · 
         obtain ⟨n0, n1, rfl⟩ : ∃ n0 n1, ns = [n0, n1] := by
           have := HI.out.2.2
           match ns, this with
           | [n0, n1], _ => exact ⟨n0, n1, rfl⟩
         obtain ⟨f, hf⟩ : ∃ f, fs[2]? = some f := ⟨fs[2]'(by rw [← HN.out]; omega), List.getElem?_eq_getElem _⟩
         obtain ⟨fb, off, rfl, _, hc⟩ := HS.out.chg HI.out.1.chg HNE.out
         have c0 : wr.cell? ⟨fb, off + 2, none⟩ = some (.string (mkS f)) := hc 2 f hf
         have x0 : wr.cell? ⟨nb, 2, none⟩ = some (.pointer (some ⟨B, 4, none⟩)) := cell_of HI.out.1.row 2
         have hna := natural_any f (HFL.out f (List.mem_of_getElem? hf)) wr (HTB.out wr HI.out.1.chg)
         have q1 : (2 : Int) < (n : Int) := by omega
         obtain ⟨s, hs⟩ : ∃ s, s = mkS f := ⟨_, rfl⟩
         rw [← hs] at c0 hna
         have HF := keepH hf
         clear hs hf hc
         rw [show ((2 : Nat) : Int) = 2 from rfl]
         go_wp2_with fail
         refine hna.mono ?_
         rintro e w2 ⟨v, rfl, hv, C2⟩
         have H2 := keepH (HI.out.1.on C2)
         clear C2 hna c0 x0
         rcases hv with ⟨u, hu, rfl⟩ | ⟨hu, u, rfl⟩
         · have y0 : w2.cell? ⟨B, 4, none⟩ = some (.int .u64 0) := cell_of H2.out.box 4
           have y1 := free_of H2.out.box 4
           have HX : Hid (FI W tb B nb (bxA (putA th 3 [n0, n1, u] false []) (.slice none 0 0)) #[.pointer (some ⟨B, 2, none⟩), .pointer (some ⟨B, 3, none⟩), .pointer (some ⟨B, 4, none⟩)] (w2.setCell ⟨B, 4, none⟩ (.int .u64 (u : Int))) ∧ natsP (fs.take 3) = some [n0, n1, u] ∧ [n0, n1, u].length = 3) := keepH ⟨H2.out.set 4 (.int .u64 (u : Int)), natsP_take HI.out.2.1 HF.out hu, rfl⟩
           clear hu
           go_wp2_with fail
           go_roundw
           case rel => exact ⟨3, [n0, n1, u], by omega, by first | rfl | go_num, HX⟩
           case measure => simp [intOf]
         · have HU := keepH hu
           clear hu
           go_wp2_with fail
           go_ret
           refine ⟨_, rfl, false, rfl, H2.out.chg, fun x e => ?_, fun _ => rfl⟩
           rw [fillP_bad (by decide) HF.out HU.out] at e
           cases e
     · obtain rfl : i = 3 := by omega
       clear hlt hii
       rw [show ((3 : Nat) : Int) = 3 from rfl]
       obtain ⟨n0, n1, n2, rfl⟩ : ∃ n0 n1 n2, ns = [n0, n1, n2] := by
         have := HI.out.2.2
         match ns, this with
         | [n0, n1, n2], _ => exact ⟨n0, n1, n2, rfl⟩
       have hfe : Hid (fillP th 3 fs = match tailP 3 (fs.drop 3) with | none => none | some q => some (putA th 3 [n0, n1, n2] q.1 q.2)) := keepH (fillP_eq (k := 3) (by rw [← HN.out]; show 3 ≤ n; omega) HI.out.2.1)
       obtain ⟨ad, hsl0, hsd, had⟩ := slice_strs (i := 3) (HS.out.chg HI.out.1.chg HNE.out) HN.out hlc (by omega)
       have hsl : ∀ w, (Instr.slice 56 (.slice q n c) (some (.int .i64 3)) none none).run Tryz.prog w = .ok (.slice (some ad) (n - 3) (c - 3)) w := hsl0
       have hadne : ad.block ≠ B := by
         obtain ⟨fb, off, hq, _⟩ := HS.out
         rw [had _ hq]
         exact HNE.out _ hq
       have f2 : wr.cell? ⟨tb, 14, none⟩ = some (.bool true) := cell_of HI.out.1.frm 14
       have f3 : wr.cell? ⟨tb, 15, none⟩ = some (.bool false) := cell_of HI.out.1.frm 15
       clear hsl0 had
       have hro := fun w' (hB' : w'.heap[B]? = some (.cells (bxA (putA th 3 [n0, n1, n2] false []) (.slice none 0 0)) 36 (0, 0))) (hs' : SRd w' (some ad) (fs.drop 3)) => read_ok B (c - 3) (some ad) th 3 n0 n1 n2 0 (.slice none 0 0) false (fs.drop 3) w' hB' hs' (fun x hx => by injection hx with hx; rw [← hx]; exact hadne) (by rw [List.length_drop, ← HN.out]; omega)
       have hro2 := hro wr HI.out.1.box hsd
       rw [show (fs.drop 3).length = n - 3 by rw [List.length_drop, HN.out]] at hro2
       obtain ⟨m, hm⟩ : ∃ m, m = n - 3 := ⟨_, rfl⟩
       rw [← hm] at hro2 hsl
       clear hro hsd hadne hm
       go_wp2_with fail
       refine hro2.mono ?_
       rintro e w3 ⟨v, rfl, hv⟩
       obtain ⟨r, rfl, hP⟩ := hv
       have HP := keepH hP
       clear hP hro2
       go_wp2_with fail
       go_ret
       refine ⟨_, rfl, r, rfl, ?_, fun x e => ?_, fun e => ?_⟩
       · exact HI.out.1.chg.trans HP.out.chg (fun _ _ x => x) (fun _ _ x => x)
       · rw [hfe.out] at e
         cases ht : tailP 3 (fs.drop 3) with
         | none => rw [ht] at e; cases e
         | some q =>
           rw [ht] at e
           injection e with e
           subst e
           obtain ⟨q1, q2⟩ := HP.out.yes q ht
           have hq2 : q.2 = [] := by
             unfold tailP at ht
             rw [if_pos rfl] at ht
             split at ht
             · injection ht with ht; rw [← ht]
             · split at ht
               · injection ht with ht; rw [← ht]
               · cases ht
           refine ⟨q1, .slice none 0 0, q2, ?_, fun g hg => by simp [Value.ownBlock] at hg⟩
           rw [show (putA th 3 [n0, n1, n2] q.1 q.2).vals = [] from hq2]
           exact World.ownsRow_nil _ _ _ _
       · rw [hfe.out] at e
         cases ht : tailP 3 (fs.drop 3) with
         | none => exact HP.out.no ht
         | some q => rw [ht] at e; cases e


set_option maxRecDepth 100000 in
set_option maxHeartbeats 4000000 in
theorem fill_4 (th : Int) (tb B c : Nat) (q : Option Addr) (fs : List (List UInt8)) (W : World) (hF : IsForms W tb) (hB : W.heap[B]? = some (.cells (accC th 4 0 0 0 (.slice none 0 0) 0 false) 36 (0, 0))) (hs : SRd W q fs) (hne : ∀ x, q = some x → x.block ≠ B) (hnt : B ≠ tb) (hl : fs.length ≤ 200000000) (hlc : fs.length ≤ c) (hfl : ∀ f ∈ fs, f.length ≤ 200000000) (hTB : ∀ w', Chg (fun x => x = B) W w' → Tb w') :
    Calls Tryz.prog 43 #[.pointer (some ⟨tb, 16, none⟩), .pointer (some ⟨B, 0, none⟩), .slice q fs.length c] W fun e W' => ∃ v, e = .returned v ∧ FlQ W B th 4 fs v W' := by
  obtain ⟨n, hn⟩ : ∃ n, n = fs.length := ⟨_, rfl⟩
  rw [← hn] at hl hlc ⊢
  have fk : W.cell? ⟨tb, 17, none⟩ = some (.func (.func 29) #[] #[]) := cell_of hF 17
  have hnum := f_n4 B W
  have HN := keepH hn
  have HS := keepH hs
  have HNE := keepH hne
  have HTB := keepH hTB
  have HFL := keepH hfl
  have HI0 : Hid (∀ w1, NumsAt W w1 #[.pointer (some ⟨B, 2, none⟩), .pointer (some ⟨B, 3, none⟩), .pointer (some ⟨B, 6, none⟩)] → FI W tb B W.heap.size (bxA (putA th 4 [] false []) (.slice none 0 0)) #[.pointer (some ⟨B, 2, none⟩), .pointer (some ⟨B, 3, none⟩), .pointer (some ⟨B, 6, none⟩)] w1) := keepH (fun w1 h => ⟨(belowC h.2.2).mono (fun _ _ x => x.elim), heap_below hB h.2.2, h.1, hF.on h.2.2, by have := lt_of hB; omega, hnt⟩)
  clear hn hs hne hTB hfl hF hB hnt
  by_cases hlen : n < 3
  · have q1 : (n : Int) < 3 := by omega
    go_enter Tryz.func43, Tryz.ntmps43
    go_wp2_with fail
    refine hnum.mono ?_
    rintro e w1 ⟨rfl, hN⟩
    have HX := keepH (HI0.out w1 hN)
    clear hN
    go_wp2_with fail
    go_ret
    refine ⟨_, rfl, false, rfl, HX.out.chg, fun x e => ?_, fun _ => rfl⟩
    have e2 : fillP th 4 fs = none := by unfold fillP; rw [if_pos (by rw [← HN.out]; exact hlen)]
    rw [e2] at e
    cases e
  · have q1 : ¬ (n : Int) < 3 := by omega
    go_enter Tryz.func43, Tryz.ntmps43
    go_wp2_with fail
    refine hnum.mono ?_
    rintro e w1 ⟨rfl, hN⟩
    have HX := keepH (HI0.out w1 hN)
    obtain ⟨nb, hnb⟩ : ∃ nb, nb = W.heap.size := ⟨_, rfl⟩
    rw [← hnb] at HX ⊢
    clear hN hnb fk hnum HI0
    go_wp2_with fail
    go_loopw [8, 9, 10, 11, 26] (fun s8 s9 s10 s11 s26 wr => ∃ (i : Nat) (ns : List Nat), i ≤ 3 ∧ s26 = .int .i64 (i : Int) ∧ Hid (FI W tb B nb (bxA (putA th 4 ns false []) (.slice none 0 0)) #[.pointer (some ⟨B, 2, none⟩), .pointer (some ⟨B, 3, none⟩), .pointer (some ⟨B, 6, none⟩)] wr ∧ natsP (fs.take i) = some ns ∧ ns.length = i)) (fun _ _ _ _ s26 _ => 3 - (intOf s26).toNat)
    case atStart => exact ⟨0, [], by omega, rfl, keepH ⟨HX.out, rfl, rfl⟩⟩
    case round =>
     obtain ⟨i, ns, hii, rfl, HI⟩ := hrel
     by_cases hlt : i < 3
     · have hcase : i = 0 ∨ i = 1 ∨ i = 2 := by omega
       clear hlt hii
       rcases hcase with rfl | rfl | rfl
       · 
         obtain rfl : ns = [] := List.eq_nil_of_length_eq_zero HI.out.2.2
         obtain ⟨f, hf⟩ : ∃ f, fs[0]? = some f := ⟨fs[0]'(by rw [← HN.out]; omega), List.getElem?_eq_getElem _⟩
         obtain ⟨fb, off, rfl, _, hc⟩ := HS.out.chg HI.out.1.chg HNE.out
         have c0 : wr.cell? ⟨fb, off, none⟩ = some (.string (mkS f)) := hc 0 f hf
         have x0 : wr.cell? ⟨nb, 0, none⟩ = some (.pointer (some ⟨B, 2, none⟩)) := cell_of HI.out.1.row 0
         have hna := natural_any f (HFL.out f (List.mem_of_getElem? hf)) wr (HTB.out wr HI.out.1.chg)
         have q1 : (0 : Int) < (n : Int) := by omega
         obtain ⟨s, hs⟩ : ∃ s, s = mkS f := ⟨_, rfl⟩
         rw [← hs] at c0 hna
         have HF := keepH hf
         clear hs hf hc
         rw [show ((0 : Nat) : Int) = 0 from rfl]
         go_wp2_with fail
         refine hna.mono ?_
         rintro e w2 ⟨v, rfl, hv, C2⟩
         have H2 := keepH (HI.out.1.on C2)
         clear C2 hna c0 x0
         rcases hv with ⟨u, hu, rfl⟩ | ⟨hu, u, rfl⟩
         · have y0 : w2.cell? ⟨B, 2, none⟩ = some (.int .u64 0) := cell_of H2.out.box 2
           have y1 := free_of H2.out.box 2
           have HX : Hid (FI W tb B nb (bxA (putA th 4 [u] false []) (.slice none 0 0)) #[.pointer (some ⟨B, 2, none⟩), .pointer (some ⟨B, 3, none⟩), .pointer (some ⟨B, 6, none⟩)] (w2.setCell ⟨B, 2, none⟩ (.int .u64 (u : Int))) ∧ natsP (fs.take 1) = some [u] ∧ [u].length = 1) := keepH ⟨H2.out.set 2 (.int .u64 (u : Int)), natsP_take HI.out.2.1 HF.out hu, rfl⟩
           clear hu
           go_wp2_with fail
           go_roundw
           case rel => exact ⟨1, [u], by omega, by first | rfl | go_num, HX⟩
           case measure => simp [intOf]
         · have HU := keepH hu
           clear hu
           go_wp2_with fail
           go_ret
           refine ⟨_, rfl, false, rfl, H2.out.chg, fun x e => ?_, fun _ => rfl⟩
           rw [fillP_bad (by decide) HF.out HU.out] at e
           cases e
       · 
         obtain ⟨n0, rfl⟩ : ∃ n0, ns = [n0] := by
           have := HI.out.2.2
           match ns, this with
           | [n0], _ => exact ⟨n0, rfl⟩
         obtain ⟨f, hf⟩ : ∃ f, fs[1]? = some f := ⟨fs[1]'(by rw [← HN.out]; omega), List.getElem?_eq_getElem _⟩
         obtain ⟨fb, off, rfl, _, hc⟩ := HS.out.chg HI.out.1.chg HNE.out
         have c0 : wr.cell? ⟨fb, off + 1, none⟩ = some (.string (mkS f)) := hc 1 f hf
         have x0 : wr.cell? ⟨nb, 1, none⟩ = some (.pointer (some ⟨B, 3, none⟩)) := cell_of HI.out.1.row 1
         have hna := natural_any f (HFL.out f (List.mem_of_getElem? hf)) wr (HTB.out wr HI.out.1.chg)
         have q1 : (1 : Int) < (n : Int) := by omega
         obtain ⟨s, hs⟩ : ∃ s, s = mkS f := ⟨_, rfl⟩
         rw [← hs] at c0 hna
         have HF := keepH hf
         clear hs hf hc
         rw [show ((1 : Nat) : Int) = 1 from rfl]
         go_wp2_with fail
         refine hna.mono ?_
         rintro e w2 ⟨v, rfl, hv, C2⟩
         have H2 := keepH (HI.out.1.on C2)
         clear C2 hna c0 x0
         rcases hv with ⟨u, hu, rfl⟩ | ⟨hu, u, rfl⟩
         · have y0 : w2.cell? ⟨B, 3, none⟩ = some (.int .u64 0) := cell_of H2.out.box 3
           have y1 := free_of H2.out.box 3
           have HX : Hid (FI W tb B nb (bxA (putA th 4 [n0, u] false []) (.slice none 0 0)) #[.pointer (some ⟨B, 2, none⟩), .pointer (some ⟨B, 3, none⟩), .pointer (some ⟨B, 6, none⟩)] (w2.setCell ⟨B, 3, none⟩ (.int .u64 (u : Int))) ∧ natsP (fs.take 2) = some [n0, u] ∧ [n0, u].length = 2) := keepH ⟨H2.out.set 3 (.int .u64 (u : Int)), natsP_take HI.out.2.1 HF.out hu, rfl⟩
           clear hu
           go_wp2_with fail
           go_roundw
           case rel => exact ⟨2, [n0, u], by omega, by first | rfl | go_num, HX⟩
           case measure => simp [intOf]
         · have HU := keepH hu
           clear hu
           go_wp2_with fail
           go_ret
           refine ⟨_, rfl, false, rfl, H2.out.chg, fun x e => ?_, fun _ => rfl⟩
           rw [fillP_bad (by decide) HF.out HU.out] at e
           cases e
       · 
         obtain ⟨n0, n1, rfl⟩ : ∃ n0 n1, ns = [n0, n1] := by
           have := HI.out.2.2
           match ns, this with
           | [n0, n1], _ => exact ⟨n0, n1, rfl⟩
         obtain ⟨f, hf⟩ : ∃ f, fs[2]? = some f := ⟨fs[2]'(by rw [← HN.out]; omega), List.getElem?_eq_getElem _⟩
         obtain ⟨fb, off, rfl, _, hc⟩ := HS.out.chg HI.out.1.chg HNE.out
         have c0 : wr.cell? ⟨fb, off + 2, none⟩ = some (.string (mkS f)) := hc 2 f hf
         have x0 : wr.cell? ⟨nb, 2, none⟩ = some (.pointer (some ⟨B, 6, none⟩)) := cell_of HI.out.1.row 2
         have hna := natural_any f (HFL.out f (List.mem_of_getElem? hf)) wr (HTB.out wr HI.out.1.chg)
         have q1 : (2 : Int) < (n : Int) := by omega
         obtain ⟨s, hs⟩ : ∃ s, s = mkS f := ⟨_, rfl⟩
         rw [← hs] at c0 hna
         have HF := keepH hf
         clear hs hf hc
         rw [show ((2 : Nat) : Int) = 2 from rfl]
         go_wp2_with fail
         refine hna.mono ?_
         rintro e w2 ⟨v, rfl, hv, C2⟩
         have H2 := keepH (HI.out.1.on C2)
         clear C2 hna c0 x0
         rcases hv with ⟨u, hu, rfl⟩ | ⟨hu, u, rfl⟩
         · have y0 : w2.cell? ⟨B, 6, none⟩ = some (.int .u64 0) := cell_of H2.out.box 6
           have y1 := free_of H2.out.box 6
           have HX : Hid (FI W tb B nb (bxA (putA th 4 [n0, n1, u] false []) (.slice none 0 0)) #[.pointer (some ⟨B, 2, none⟩), .pointer (some ⟨B, 3, none⟩), .pointer (some ⟨B, 6, none⟩)] (w2.setCell ⟨B, 6, none⟩ (.int .u64 (u : Int))) ∧ natsP (fs.take 3) = some [n0, n1, u] ∧ [n0, n1, u].length = 3) := keepH ⟨H2.out.set 6 (.int .u64 (u : Int)), natsP_take HI.out.2.1 HF.out hu, rfl⟩
           clear hu
           go_wp2_with fail
           go_roundw
           case rel => exact ⟨3, [n0, n1, u], by omega, by first | rfl | go_num, HX⟩
           case measure => simp [intOf]
         · have HU := keepH hu
           clear hu
           go_wp2_with fail
           go_ret
           refine ⟨_, rfl, false, rfl, H2.out.chg, fun x e => ?_, fun _ => rfl⟩
           rw [fillP_bad (by decide) HF.out HU.out] at e
           cases e
     · obtain rfl : i = 3 := by omega
       clear hlt hii
       rw [show ((3 : Nat) : Int) = 3 from rfl]
       obtain ⟨n0, n1, n2, rfl⟩ : ∃ n0 n1 n2, ns = [n0, n1, n2] := by
         have := HI.out.2.2
         match ns, this with
         | [n0, n1, n2], _ => exact ⟨n0, n1, n2, rfl⟩
       have hfe : Hid (fillP th 4 fs = match tailP 4 (fs.drop 3) with | none => none | some q => some (putA th 4 [n0, n1, n2] q.1 q.2)) := keepH (fillP_eq (k := 4) (by rw [← HN.out]; show 3 ≤ n; omega) HI.out.2.1)
       obtain ⟨ad, hsl0, hsd, had⟩ := slice_strs (i := 3) (HS.out.chg HI.out.1.chg HNE.out) HN.out hlc (by omega)
       have hsl : ∀ w, (Instr.slice 56 (.slice q n c) (some (.int .i64 3)) none none).run Tryz.prog w = .ok (.slice (some ad) (n - 3) (c - 3)) w := hsl0
       have hadne : ad.block ≠ B := by
         obtain ⟨fb, off, hq, _⟩ := HS.out
         rw [had _ hq]
         exact HNE.out _ hq
       have f2 : wr.cell? ⟨tb, 18, none⟩ = some (.bool false) := cell_of HI.out.1.frm 18
       have f3 : wr.cell? ⟨tb, 19, none⟩ = some (.bool false) := cell_of HI.out.1.frm 19
       clear hsl0 had
       have ht : tailP 4 (fs.drop 3) = if fs.drop 3 = [] then some (false, []) else none := by unfold tailP; rw [if_neg (by decide), if_neg (by decide)]
       have HTL := keepH ht
       have hdl : (fs.drop 3).length = n - 3 := by rw [List.length_drop, HN.out]
       obtain ⟨m, hm⟩ : ∃ m, m = n - 3 := ⟨_, rfl⟩
       rw [← hm] at hsl hdl
       have HDL := keepH hdl
       clear hsd hadne hm ht hdl
       by_cases hm0 : m = 0
       · subst hm0
         go_wp2_with fail
         go_ret
         have hnil : fs.drop 3 = [] := List.eq_nil_of_length_eq_zero HDL.out
         refine ⟨_, rfl, true, rfl, HI.out.1.chg, fun x e => ?_, fun e => ?_⟩
         · rw [hfe.out, HTL.out, if_pos hnil] at e
           injection e with e
           subst e
           exact ⟨rfl, .slice none 0 0, HI.out.1.box, World.ownsRow_nil _ _ _ _, fun g hg => by simp [Value.ownBlock] at hg⟩
         · rw [hfe.out, HTL.out, if_pos hnil] at e
           cases e
       · have qm : ((m : Int) == 0) = false := by simp; omega
         go_wp2_with fail
         go_ret
         have hnil : ¬ fs.drop 3 = [] := fun e => hm0 (by rw [← HDL.out, e]; rfl)
         refine ⟨_, rfl, false, rfl, HI.out.1.chg, fun x e => ?_, fun e => rfl⟩
         rw [hfe.out, HTL.out, if_neg hnil] at e
         cases e


set_option maxRecDepth 100000 in
set_option maxHeartbeats 4000000 in
theorem fill_5 (th : Int) (tb B c : Nat) (q : Option Addr) (fs : List (List UInt8)) (W : World) (hF : IsForms W tb) (hB : W.heap[B]? = some (.cells (accC th 5 0 0 0 (.slice none 0 0) 0 false) 36 (0, 0))) (hs : SRd W q fs) (hne : ∀ x, q = some x → x.block ≠ B) (hnt : B ≠ tb) (hl : fs.length ≤ 200000000) (hlc : fs.length ≤ c) (hfl : ∀ f ∈ fs, f.length ≤ 200000000) (hTB : ∀ w', Chg (fun x => x = B) W w' → Tb w') :
    Calls Tryz.prog 43 #[.pointer (some ⟨tb, 20, none⟩), .pointer (some ⟨B, 0, none⟩), .slice q fs.length c] W fun e W' => ∃ v, e = .returned v ∧ FlQ W B th 5 fs v W' := by
  obtain ⟨n, hn⟩ : ∃ n, n = fs.length := ⟨_, rfl⟩
  rw [← hn] at hl hlc ⊢
  have fk : W.cell? ⟨tb, 21, none⟩ = some (.func (.func 30) #[] #[]) := cell_of hF 21
  have hnum := f_n5 B W
  have HN := keepH hn
  have HS := keepH hs
  have HNE := keepH hne
  have HTB := keepH hTB
  have HFL := keepH hfl
  have HI0 : Hid (∀ w1, NumsAt W w1 #[.pointer (some ⟨B, 2, none⟩)] → FI W tb B W.heap.size (bxA (putA th 5 [] false []) (.slice none 0 0)) #[.pointer (some ⟨B, 2, none⟩)] w1) := keepH (fun w1 h => ⟨(belowC h.2.2).mono (fun _ _ x => x.elim), heap_below hB h.2.2, h.1, hF.on h.2.2, by have := lt_of hB; omega, hnt⟩)
  clear hn hs hne hTB hfl hF hB hnt
  by_cases hlen : n < 1
  · have q1 : (n : Int) < 1 := by omega
    go_enter Tryz.func43, Tryz.ntmps43
    go_wp2_with fail
    refine hnum.mono ?_
    rintro e w1 ⟨rfl, hN⟩
    have HX := keepH (HI0.out w1 hN)
    clear hN
    go_wp2_with fail
    go_ret
    refine ⟨_, rfl, false, rfl, HX.out.chg, fun x e => ?_, fun _ => rfl⟩
    have e2 : fillP th 5 fs = none := by unfold fillP; rw [if_pos (by rw [← HN.out]; exact hlen)]
    rw [e2] at e
    cases e
  · have q1 : ¬ (n : Int) < 1 := by omega
    go_enter Tryz.func43, Tryz.ntmps43
    go_wp2_with fail
    refine hnum.mono ?_
    rintro e w1 ⟨rfl, hN⟩
    have HX := keepH (HI0.out w1 hN)
    obtain ⟨nb, hnb⟩ : ∃ nb, nb = W.heap.size := ⟨_, rfl⟩
    rw [← hnb] at HX ⊢
    clear hN hnb fk hnum HI0
    go_wp2_with fail
    go_loopw [8, 9, 10, 11, 26] (fun s8 s9 s10 s11 s26 wr => ∃ (i : Nat) (ns : List Nat), i ≤ 1 ∧ s26 = .int .i64 (i : Int) ∧ Hid (FI W tb B nb (bxA (putA th 5 ns false []) (.slice none 0 0)) #[.pointer (some ⟨B, 2, none⟩)] wr ∧ natsP (fs.take i) = some ns ∧ ns.length = i)) (fun _ _ _ _ s26 _ => 1 - (intOf s26).toNat)
    case atStart => exact ⟨0, [], by omega, rfl, keepH ⟨HX.out, rfl, rfl⟩⟩
    case round =>
     obtain ⟨i, ns, hii, rfl, HI⟩ := hrel
     by_cases hlt : i < 1
     · have hcase : i = 0 := by omega
       clear hlt hii
       rcases hcase with rfl
       · 
         obtain rfl : ns = [] := List.eq_nil_of_length_eq_zero HI.out.2.2
         obtain ⟨f, hf⟩ : ∃ f, fs[0]? = some f := ⟨fs[0]'(by rw [← HN.out]; omega), List.getElem?_eq_getElem _⟩
         obtain ⟨fb, off, rfl, _, hc⟩ := HS.out.chg HI.out.1.chg HNE.out
         have c0 : wr.cell? ⟨fb, off, none⟩ = some (.string (mkS f)) := hc 0 f hf
         have x0 : wr.cell? ⟨nb, 0, none⟩ = some (.pointer (some ⟨B, 2, none⟩)) := cell_of HI.out.1.row 0
         have hna := natural_any f (HFL.out f (List.mem_of_getElem? hf)) wr (HTB.out wr HI.out.1.chg)
         have q1 : (0 : Int) < (n : Int) := by omega
         obtain ⟨s, hs⟩ : ∃ s, s = mkS f := ⟨_, rfl⟩
         rw [← hs] at c0 hna
         have HF := keepH hf
         clear hs hf hc
         rw [show ((0 : Nat) : Int) = 0 from rfl]
         go_wp2_with fail
         refine hna.mono ?_
         rintro e w2 ⟨v, rfl, hv, C2⟩
         have H2 := keepH (HI.out.1.on C2)
         clear C2 hna c0 x0
         rcases hv with ⟨u, hu, rfl⟩ | ⟨hu, u, rfl⟩
         · have y0 : w2.cell? ⟨B, 2, none⟩ = some (.int .u64 0) := cell_of H2.out.box 2
           have y1 := free_of H2.out.box 2
           have HX : Hid (FI W tb B nb (bxA (putA th 5 [u] false []) (.slice none 0 0)) #[.pointer (some ⟨B, 2, none⟩)] (w2.setCell ⟨B, 2, none⟩ (.int .u64 (u : Int))) ∧ natsP (fs.take 1) = some [u] ∧ [u].length = 1) := keepH ⟨H2.out.set 2 (.int .u64 (u : Int)), natsP_take HI.out.2.1 HF.out hu, rfl⟩
           clear hu
           go_wp2_with fail
           go_roundw
           case rel => exact ⟨1, [u], by omega, by first | rfl | go_num, HX⟩
           case measure => simp [intOf]
         · have HU := keepH hu
           clear hu
           go_wp2_with fail
           go_ret
           refine ⟨_, rfl, false, rfl, H2.out.chg, fun x e => ?_, fun _ => rfl⟩
           rw [fillP_bad (by decide) HF.out HU.out] at e
           cases e
     · obtain rfl : i = 1 := by omega
       clear hlt hii
       rw [show ((1 : Nat) : Int) = 1 from rfl]
       obtain ⟨n0, rfl⟩ : ∃ n0, ns = [n0] := by
         have := HI.out.2.2
         match ns, this with
         | [n0], _ => exact ⟨n0, rfl⟩
       have hfe : Hid (fillP th 5 fs = match tailP 5 (fs.drop 1) with | none => none | some q => some (putA th 5 [n0] q.1 q.2)) := keepH (fillP_eq (k := 5) (by rw [← HN.out]; show 1 ≤ n; omega) HI.out.2.1)
       obtain ⟨ad, hsl0, hsd, had⟩ := slice_strs (i := 1) (HS.out.chg HI.out.1.chg HNE.out) HN.out hlc (by omega)
       have hsl : ∀ w, (Instr.slice 56 (.slice q n c) (some (.int .i64 1)) none none).run Tryz.prog w = .ok (.slice (some ad) (n - 1) (c - 1)) w := hsl0
       have hadne : ad.block ≠ B := by
         obtain ⟨fb, off, hq, _⟩ := HS.out
         rw [had _ hq]
         exact HNE.out _ hq
       have f2 : wr.cell? ⟨tb, 22, none⟩ = some (.bool false) := cell_of HI.out.1.frm 22
       have f3 : wr.cell? ⟨tb, 23, none⟩ = some (.bool true) := cell_of HI.out.1.frm 23
       clear hsl0 had
       have hro := read_values B (c - 1) (some ad) th 5 n0 0 0 0 false (fs.drop 1) wr HI.out.1.box hsd (fun x hx => by injection hx with hx; rw [← hx]; exact hadne) (by rw [List.length_drop, ← HN.out]; omega) (fun f hf => HFL.out f (List.mem_of_mem_drop hf)) (HTB.out wr HI.out.1.chg) (fun w' hc => HTB.out w' (HI.out.1.chg.trans hc (fun _ _ x => x) (fun _ _ x => x)))
       rw [show (fs.drop 1).length = n - 1 by rw [List.length_drop, HN.out]] at hro
       obtain ⟨m, hm⟩ : ∃ m, m = n - 1 := ⟨_, rfl⟩
       rw [← hm] at hro hsl
       clear hsd hadne hm
       go_wp2_with fail
       refine hro.mono ?_
       rintro e w3 ⟨v, rfl, hv⟩
       obtain ⟨r, rfl, hP⟩ := hv
       have HP := keepH hP
       clear hP hro
       go_wp2_with fail
       go_ret
       refine ⟨_, rfl, r, rfl, ?_, fun x e => ?_, fun e => ?_⟩
       · exact HI.out.1.chg.trans HP.out.chg (fun _ _ x => x) (fun _ _ x => x)
       · rw [hfe.out] at e
         have ht : tailP 5 (fs.drop 1) = match natsP (fs.drop 1) with | none => none | some us => some (false, us) := by unfold tailP; rw [if_neg (by decide), if_pos rfl]; cases natsP (fs.drop 1) <;> rfl
         rw [ht] at e
         cases hq : natsP (fs.drop 1) with
         | none => rw [hq] at e; cases e
         | some us =>
           rw [hq] at e
           injection e with e
           subst e
           obtain ⟨q1, vs, q2, q3, q4⟩ := HP.out.yes us hq
           exact ⟨q1, vs, q2, q3, fun g hg => Nat.le_trans HI.out.1.chg.size (q4 g hg)⟩
       · rw [hfe.out] at e
         have ht : tailP 5 (fs.drop 1) = match natsP (fs.drop 1) with | none => none | some us => some (false, us) := by unfold tailP; rw [if_neg (by decide), if_pos rfl]; cases natsP (fs.drop 1) <;> rfl
         rw [ht] at e
         cases hq : natsP (fs.drop 1) with
         | none => exact HP.out.no hq
         | some us => rw [hq] at e; cases e

end Go.Proofs.YtdgagpcofghbaaaGreatDoor
