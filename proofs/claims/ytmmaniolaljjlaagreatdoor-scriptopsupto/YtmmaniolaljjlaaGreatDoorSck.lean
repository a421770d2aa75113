/- Parts of a line that are read as numbers. (mkSck.py) -/
import Derived.Test.YtmmaniolaljjlaaGreatDoorScj
namespace Go.Proofs.YtmmaniolaljjlaaGreatDoor
open Go.RowKit Go.Shelf Go.Maps
set_option linter.unusedVariables false

/-- texts that lie somewhere -/
def SRd (W : World) (p : Option Addr) (fs : List (List UInt8)) : Prop :=
  fs = [] ∨ ∃ bk off, p = some ⟨bk, off, none⟩ ∧ bk < W.heap.size ∧ ∀ (i : Nat) (f : List UInt8), fs[i]? = some f → W.cell? ⟨bk, off + i, none⟩ = some (.string (mkS f))
theorem SRd.get {W : World} {p : Option Addr} {fs : List (List UInt8)} (h : SRd W p fs) (i : Nat) (f : List UInt8) (hf : fs[i]? = some f) : ∃ bk off, p = some ⟨bk, off, none⟩ ∧ bk < W.heap.size ∧ W.cell? ⟨bk, off + i, none⟩ = some (.string (mkS f)) := by
  rcases h with rfl | ⟨bk, off, rfl, hb, h⟩
  · simp at hf
  · exact ⟨bk, off, rfl, hb, h i f hf⟩
theorem SRd.on {W X : World} {p : Option Addr} {fs : List (List UInt8)} (h : SRd W p fs) (hb : Below W.heap.size W X) : SRd X p fs := by
  rcases h with rfl | ⟨bk, off, rfl, hl, h⟩
  · exact .inl rfl
  · exact .inr ⟨bk, off, rfl, Nat.lt_of_lt_of_le hl hb.size, fun i f hf => cell_below (h i f hf) hb⟩
def uRow (xs : List Nat) : List Value := xs.map fun n => Value.int .u64 ((n : Nat) : Int)
def zRow (xs : List Int) : List Value := xs.map fun n => Value.int .i64 n
theorem infoU : (Tryz.prog.info? 23).map (fun i => (i.zero, i.size, i.bytes)) = some (some (.int .u64 0), 1, 8) := by kernel_rfl
theorem infoZ : (Tryz.prog.info? 3).map (fun i => (i.zero, i.size, i.bytes)) = some (some (.int .i64 0), 1, 8) := by kernel_rfl
structure StU (Z : World) (l : List Nat) (v : Value) (wr : World) : Prop where
  row : wr.ownsRow 0 23 1 v l.length (uRow l)
  bel : Below Z.heap.size Z wr
  new : ∀ b, v.ownBlock = some b → Z.heap.size ≤ b
theorem StU.on {Z : World} {l : List Nat} {v : Value} {wr X : World} (h : StU Z l v wr) (hb : Below wr.heap.size wr X) : StU Z l v X :=
  ⟨row_kept h.row fun b hb' => hb.block b (row_lt h.row b hb'), below_chain h.bel hb, h.new⟩
theorem StU.more {Z : World} {l : List Nat} {v v' : Value} {w1 w2 : World} {x : Nat} {o : Obj} (h : StU Z l v w1) (hr : w2.ownsRow 0 23 1 v' (l.length + 1) (uRow l ++ [.int .u64 (x : Int)])) (hg : (w1.alloc o).grownBy w2 v.ownBlock) (hw : v'.ownBlock = v.ownBlock ∨ v'.ownBlock = some (w1.alloc o).heap.size) : StU Z (l ++ [x]) v' w2 := by
  have hs := h.bel.size
  refine ⟨?_, (h.bel.alloc hs _).grown hg (by simp; omega) (fun k hk => h.new k hk), ?_⟩
  · rw [List.length_append]
    unfold uRow at *
    rw [List.map_append]
    exact hr
  · intro b hb
    rcases hw with e1 | e1
    · rw [e1] at hb
      exact h.new b hb
    · rw [e1] at hb
      simp at hb
      omega
theorem mapM_u_next {fs : List (List UInt8)} {i : Nat} {f : List UInt8} {us : List Nat} {x : Nat} (h : (fs.take i).mapM natP = some us) (hf : fs[i]? = some f) (hx : natP f = some x) : (fs.take (i + 1)).mapM natP = some (us ++ [x]) := by
  rw [List.take_add_one, hf, List.mapM_append, h]
  simp [hx]
theorem mapM_u_none {fs : List (List UInt8)} {i : Nat} {f : List UInt8} (hf : fs[i]? = some f) (hx : natP f = none) : fs.mapM natP = none := by
  have e : fs = fs.take i ++ f :: fs.drop (i + 1) := by
    obtain ⟨hi, rfl⟩ := List.getElem?_eq_some_iff.1 hf
    rw [← List.drop_eq_getElem_cons hi, List.take_append_drop]
  rw [e, List.mapM_append]
  cases (fs.take i).mapM natP with
  | none => rfl
  | some us => simp [hx]
theorem mapM_u_len {fs : List (List UInt8)} : ∀ {us : List Nat}, fs.mapM natP = some us → us.length = fs.length := by
  induction fs with
  | nil => intro us h; simp at h; subst h; rfl
  | cons f r ih =>
    intro us h
    simp only [List.mapM_cons, Option.bind_eq_bind, Option.bind_eq_some_iff, Option.pure_def, Option.some.injEq] at h
    obtain ⟨b, hb, r', hr', rfl⟩ := h
    simp [ih hr']
def NumsStU (W : World) (fs : List (List UInt8)) (e : Ending) (W' : World) : Prop := (∃ us v, fs.mapM natP = some us ∧ e = .returned (.tuple #[v, .bool true]) ∧ StU W us v W') ∨ (fs.mapM natP = none ∧ e = .returned (.tuple #[.slice none 0 0, .bool false]) ∧ Below W.heap.size W W')
set_option maxRecDepth 100000 in
set_option maxHeartbeats 4000000 in
theorem nums_u (p : Option Addr) (c : Nat) (fs : List (List UInt8)) (hl : fs.length ≤ 200000000) (hf : ∀ f ∈ fs, f.length ≤ 200000000) (W : World) (T : Tb W) (h : SRd W p fs) :
    Calls Tryz.prog 77 #[.func (.func 78) #[] #[], .slice p fs.length c] W (NumsStU W fs) := by
  have HNA := keepH (fun f (hm : f ∈ fs) w (hb : Below W.heap.size W w) => natural_any f (hf f hm) w (T.on hb))
  have HR := keepH h
  obtain ⟨n, hn⟩ : ∃ n, n = fs.length := ⟨_, rfl⟩
  have HN := keepH hn
  rw [← hn] at hl ⊢
  obtain ⟨i0, hi0, hz0, hz1, hz2⟩ := info_parts infoU
  have HI := keepH hi0
  clear h T hf hn hi0
  go_enter Tryz.func77, Tryz.ntmps77
  go_wp2_with fail
  go_loopw [6, 13] (fun v s wr => ∃ i : Nat, i ≤ n ∧ s = .int .i64 (i : Int) ∧ Hid (∃ us, (fs.take i).mapM natP = some us ∧ StU W us v wr)) (fun _ s _ => n - (intOf s).toNat)
  case atStart => exact ⟨0, by omega, rfl, keepH ⟨[], by simp, World.ownsRow_nil _ _ _ _, Below.refl _ _, fun b hb => by simp [Value.ownBlock] at hb⟩⟩
  case round =>
    obtain ⟨i, him, rfl, HK⟩ := hrel
    obtain ⟨us, hus, hst⟩ := HK.out
    have HUS := keepH hus
    have HST := keepH hst
    have hul : us.length ≤ n := by
      rw [mapM_u_len hus, List.length_take]
      omega
    clear hus hst HK
    by_cases hlt : i < n
    · have t1 : (i : Int) < (n : Int) := by omega
      have t0 : (0 : Int) ≤ (i : Int) := by omega
      obtain ⟨f, hfi⟩ : ∃ f, fs[i]? = some f := ⟨fs[i]'(by have := HN.out; omega), List.getElem?_eq_getElem _⟩
      obtain ⟨bk, off, rfl, hbk, c0⟩ := (HR.out.on HST.out.bel).get i f hfi
      have HQ := keepH (HNA.out f (List.mem_of_getElem? hfi) wr HST.out.bel)
      have HFI := keepH hfi
      obtain ⟨sf, hsf⟩ : ∃ s, s = mkS f := ⟨_, rfl⟩
      rw [← hsf] at c0 HQ
      clear hfi hsf
      go_wp2_with fail
      refine HQ.out.mono ?_
      rintro e w2 ⟨v2, rfl, hv, B2⟩
      have HS2 := keepH (HST.out.on B2)
      clear B2 c0
      rcases hv with ⟨x, hx, rfl⟩ | ⟨hx, x, rfl⟩
      · have HNX := keepH (mapM_u_next HUS.out HFI.out hx)
        obtain ⟨fl, hfl⟩ : ∃ fl, fl = us.length := ⟨_, rfl⟩
        have hfl2 : fl ≤ 200000000 := by omega
        have HRW : Hid (w2.ownsRow 0 23 1 u6 fl (uRow us)) := keepH (by rw [hfl]; exact HS2.out.row)
        have hi0 := HI.out
        have HFL := keepH hfl
        clear hfl hx
        go_wp2_with (first | (at_builtin; refine wpList_append_own_at _ rfl (.tmp 25) (.tmp 27) 26 rfl 0 23 i0 (.int .u64 0) 1 8 Tryz.underlying26 hi0 hz0 hz1 hz2 rfl (by decide) u6 fl (uRow us) rfl (HRW.out.alloc _) ⟨w2.heap.size, 0, none⟩ 1 1 [.int .u64 (x : Int)] rfl rfl (cells_newR _ _ rfl _ _) (by intro u hu; simp at hu; subst hu; rfl) (by unfold maxLen; omega) (by omega) (Nat.zero_le _) ?_; intro v9 w9 r1 r2 r3 r4; have R1 := keepH r1; have R2 := keepH r2; have R4 := keepH r4; clear r1 r2 r3 r4) | go_in)
        have HNS := keepH (HS2.out.more (x := x) (by rw [← HFL.out]; exact R1.out) R2.out R4.out)
        go_roundw
        case rel => exact ⟨i + 1, by omega, by first | rfl | go_num, keepH ⟨_, HNX.out, HNS.out⟩⟩
        case measure => simp [intOf]; omega
      · have HNO := keepH (mapM_u_none HFI.out hx)
        clear hx
        go_wp2_with fail
        go_ret2
        exact .inr ⟨HNO.out, by simp, HS2.out.bel⟩
    · obtain rfl : i = n := by omega
      have t1 : ¬ (i : Int) < (i : Int) := by omega
      have hu := HUS.out
      rw [HN.out, List.take_length] at hu
      have HU := keepH hu
      clear hu
      go_wp2_with fail
      go_ret2
      exact .inl ⟨us, u6, HU.out, by simp, HST.out⟩
structure StZ (Z : World) (l : List Int) (v : Value) (wr : World) : Prop where
  row : wr.ownsRow 0 3 1 v l.length (zRow l)
  bel : Below Z.heap.size Z wr
  new : ∀ b, v.ownBlock = some b → Z.heap.size ≤ b
theorem StZ.on {Z : World} {l : List Int} {v : Value} {wr X : World} (h : StZ Z l v wr) (hb : Below wr.heap.size wr X) : StZ Z l v X :=
  ⟨row_kept h.row fun b hb' => hb.block b (row_lt h.row b hb'), below_chain h.bel hb, h.new⟩
theorem StZ.more {Z : World} {l : List Int} {v v' : Value} {w1 w2 : World} {x : Int} {o : Obj} (h : StZ Z l v w1) (hr : w2.ownsRow 0 3 1 v' (l.length + 1) (zRow l ++ [.int .i64 x])) (hg : (w1.alloc o).grownBy w2 v.ownBlock) (hw : v'.ownBlock = v.ownBlock ∨ v'.ownBlock = some (w1.alloc o).heap.size) : StZ Z (l ++ [x]) v' w2 := by
  have hs := h.bel.size
  refine ⟨?_, (h.bel.alloc hs _).grown hg (by simp; omega) (fun k hk => h.new k hk), ?_⟩
  · rw [List.length_append]
    unfold zRow at *
    rw [List.map_append]
    exact hr
  · intro b hb
    rcases hw with e1 | e1
    · rw [e1] at hb
      exact h.new b hb
    · rw [e1] at hb
      simp at hb
      omega
theorem mapM_z_next {fs : List (List UInt8)} {i : Nat} {f : List UInt8} {us : List Int} {x : Int} (h : (fs.take i).mapM intP = some us) (hf : fs[i]? = some f) (hx : intP f = some x) : (fs.take (i + 1)).mapM intP = some (us ++ [x]) := by
  rw [List.take_add_one, hf, List.mapM_append, h]
  simp [hx]
theorem mapM_z_none {fs : List (List UInt8)} {i : Nat} {f : List UInt8} (hf : fs[i]? = some f) (hx : intP f = none) : fs.mapM intP = none := by
  have e : fs = fs.take i ++ f :: fs.drop (i + 1) := by
    obtain ⟨hi, rfl⟩ := List.getElem?_eq_some_iff.1 hf
    rw [← List.drop_eq_getElem_cons hi, List.take_append_drop]
  rw [e, List.mapM_append]
  cases (fs.take i).mapM intP with
  | none => rfl
  | some us => simp [hx]
theorem mapM_z_len {fs : List (List UInt8)} : ∀ {us : List Int}, fs.mapM intP = some us → us.length = fs.length := by
  induction fs with
  | nil => intro us h; simp at h; subst h; rfl
  | cons f r ih =>
    intro us h
    simp only [List.mapM_cons, Option.bind_eq_bind, Option.bind_eq_some_iff, Option.pure_def, Option.some.injEq] at h
    obtain ⟨b, hb, r', hr', rfl⟩ := h
    simp [ih hr']
def NumsStZ (W : World) (fs : List (List UInt8)) (e : Ending) (W' : World) : Prop := (∃ us v, fs.mapM intP = some us ∧ e = .returned (.tuple #[v, .bool true]) ∧ StZ W us v W') ∨ (fs.mapM intP = none ∧ e = .returned (.tuple #[.slice none 0 0, .bool false]) ∧ Below W.heap.size W W')
set_option maxRecDepth 100000 in
set_option maxHeartbeats 4000000 in
theorem nums_z (p : Option Addr) (c : Nat) (fs : List (List UInt8)) (hl : fs.length ≤ 200000000) (hf : ∀ f ∈ fs, f.length ≤ 200000000) (W : World) (T : Tb W) (h : SRd W p fs) :
    Calls Tryz.prog 99 #[.func (.func 100) #[] #[], .slice p fs.length c] W (NumsStZ W fs) := by
  have HNA := keepH (fun f (hm : f ∈ fs) w (hb : Below W.heap.size W w) => integer_any f (hf f hm) w (T.on hb))
  have HR := keepH h
  obtain ⟨n, hn⟩ : ∃ n, n = fs.length := ⟨_, rfl⟩
  have HN := keepH hn
  rw [← hn] at hl ⊢
  obtain ⟨i0, hi0, hz0, hz1, hz2⟩ := info_parts infoZ
  have HI := keepH hi0
  clear h T hf hn hi0
  go_enter Tryz.func99, Tryz.ntmps99
  go_wp2_with fail
  go_loopw [6, 13] (fun v s wr => ∃ i : Nat, i ≤ n ∧ s = .int .i64 (i : Int) ∧ Hid (∃ us, (fs.take i).mapM intP = some us ∧ StZ W us v wr)) (fun _ s _ => n - (intOf s).toNat)
  case atStart => exact ⟨0, by omega, rfl, keepH ⟨[], by simp, World.ownsRow_nil _ _ _ _, Below.refl _ _, fun b hb => by simp [Value.ownBlock] at hb⟩⟩
  case round =>
    obtain ⟨i, him, rfl, HK⟩ := hrel
    obtain ⟨us, hus, hst⟩ := HK.out
    have HUS := keepH hus
    have HST := keepH hst
    have hul : us.length ≤ n := by
      rw [mapM_z_len hus, List.length_take]
      omega
    clear hus hst HK
    by_cases hlt : i < n
    · have t1 : (i : Int) < (n : Int) := by omega
      have t0 : (0 : Int) ≤ (i : Int) := by omega
      obtain ⟨f, hfi⟩ : ∃ f, fs[i]? = some f := ⟨fs[i]'(by have := HN.out; omega), List.getElem?_eq_getElem _⟩
      obtain ⟨bk, off, rfl, hbk, c0⟩ := (HR.out.on HST.out.bel).get i f hfi
      have HQ := keepH (HNA.out f (List.mem_of_getElem? hfi) wr HST.out.bel)
      have HFI := keepH hfi
      obtain ⟨sf, hsf⟩ : ∃ s, s = mkS f := ⟨_, rfl⟩
      rw [← hsf] at c0 HQ
      clear hfi hsf
      go_wp2_with fail
      refine HQ.out.mono ?_
      rintro e w2 ⟨v2, rfl, hv, B2⟩
      have HS2 := keepH (HST.out.on B2)
      clear B2 c0
      rcases hv with ⟨x, hx, rfl⟩ | ⟨hx, x, rfl⟩
      · have HNX := keepH (mapM_z_next HUS.out HFI.out hx)
        obtain ⟨fl, hfl⟩ : ∃ fl, fl = us.length := ⟨_, rfl⟩
        have hfl2 : fl ≤ 200000000 := by omega
        have HRW : Hid (w2.ownsRow 0 3 1 u6 fl (zRow us)) := keepH (by rw [hfl]; exact HS2.out.row)
        have hi0 := HI.out
        have HFL := keepH hfl
        clear hfl hx
        go_wp2_with (first | (at_builtin; refine wpList_append_own_at _ rfl (.tmp 25) (.tmp 27) 44 rfl 0 3 i0 (.int .i64 0) 1 8 Tryz.underlying44 hi0 hz0 hz1 hz2 rfl (by decide) u6 fl (zRow us) rfl (HRW.out.alloc _) ⟨w2.heap.size, 0, none⟩ 1 1 [.int .i64 x] rfl rfl (cells_newR _ _ rfl _ _) (by intro u hu; simp at hu; subst hu; rfl) (by unfold maxLen; omega) (by omega) (Nat.zero_le _) ?_; intro v9 w9 r1 r2 r3 r4; have R1 := keepH r1; have R2 := keepH r2; have R4 := keepH r4; clear r1 r2 r3 r4) | go_in)
        have HNS := keepH (HS2.out.more (x := x) (by rw [← HFL.out]; exact R1.out) R2.out R4.out)
        go_roundw
        case rel => exact ⟨i + 1, by omega, by first | rfl | go_num, keepH ⟨_, HNX.out, HNS.out⟩⟩
        case measure => simp [intOf]; omega
      · have HNO := keepH (mapM_z_none HFI.out hx)
        clear hx
        go_wp2_with fail
        go_ret2
        exact .inr ⟨HNO.out, by simp, HS2.out.bel⟩
    · obtain rfl : i = n := by omega
      have t1 : ¬ (i : Int) < (i : Int) := by omega
      have hu := HUS.out
      rw [HN.out, List.take_length] at hu
      have HU := keepH hu
      clear hu
      go_wp2_with fail
      go_ret2
      exact .inl ⟨us, u6, HU.out, by simp, HST.out⟩
end Go.Proofs.YtmmaniolaljjlaaGreatDoor
