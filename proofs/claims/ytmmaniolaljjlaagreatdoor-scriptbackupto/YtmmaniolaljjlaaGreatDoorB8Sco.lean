/- Parts of a line that are read as numbers. (mkSck.py) -/
import Derived.Test.YtmmaniolaljjlaaGreatDoorB7Scj
namespace Go.Proofs.YtmmaniolaljjlaaGreatDoor
open Go.RowKit Go.Shelf Go.Maps
set_option linter.unusedVariables false

/-- texts that lie somewhere -/
def SRd (W : World) (p : Option Addr) (fs : List (List UInt8)) : Prop :=
  fs = [] ∨ ∃ bk off, p = some ⟨bk, off, none⟩ ∧ bk < W.heap.size ∧ ∀ (i : Nat) (f : List UInt8), fs[i]? = some f → W.cell? ⟨bk, off + i, none⟩ = some (.string (mkS f))
theorem SRd.get {W : World} {p : Option Addr} {fs : List (List UInt8)} (h : SRd W p fs) (i : Nat) (f : List UInt8) (hf : fs[i]? = some f) : ∃ bk off, p = some ⟨bk, off, none⟩ ∧ bk < W.heap.size ∧ W.cell? ⟨bk, off + i, none⟩ = some (.string (mkS f)) := by
  rcases h with rfl | ⟨bk, off, rfl, hb, h⟩
  · simp at hf
  · exact ⟨bk, off, rfl, hb, h i f hf⟩
theorem SRd.on {W X : World} {p : Option Addr} {fs : List (List UInt8)} (h : SRd W p fs) (hb : Below W.heap.size W X) : SRd X p fs := by
  rcases h with rfl | ⟨bk, off, rfl, hl, h⟩
  · exact .inl rfl
  · exact .inr ⟨bk, off, rfl, Nat.lt_of_lt_of_le hl hb.size, fun i f hf => cell_below (h i f hf) hb⟩
def uRow (xs : List Nat) : List Value := xs.map fun n => Value.int .u64 ((n : Nat) : Int)
def zRow (xs : List Int) : List Value := xs.map fun n => Value.int .i64 n
theorem infoUk : (Tryz.prog.info? 23).map (fun i => (i.zero, i.size, i.bytes)) = some (some (.int .u64 0), 1, 8) := by kernel_rfl
theorem infoZ : (Tryz.prog.info? 3).map (fun i => (i.zero, i.size, i.bytes)) = some (some (.int .i64 0), 1, 8) := by kernel_rfl
structure StU (Z : World) (l : List Nat) (v : Value) (wr : World) : Prop where
  row : wr.ownsRow 0 23 1 v l.length (uRow l)
  bel : Below Z.heap.size Z wr
  new : ∀ b, v.ownBlock = some b → Z.heap.size ≤ b
theorem StU.on {Z : World} {l : List Nat} {v : Value} {wr X : World} (h : StU Z l v wr) (hb : Below wr.heap.size wr X) : StU Z l v X :=
  ⟨row_kept h.row fun b hb' => hb.block b (row_lt h.row b hb'), below_chain h.bel hb, h.new⟩
theorem StU.more {Z : World} {l : List Nat} {v v' : Value} {w1 w2 : World} {x : Nat} {o : Obj} (h : StU Z l v w1) (hr : w2.ownsRow 0 23 1 v' (l.length + 1) (uRow l ++ [.int .u64 (x : Int)])) (hg : (w1.alloc o).grownBy w2 v.ownBlock) (hw : v'.ownBlock = v.ownBlock ∨ v'.ownBlock = some (w1.alloc o).heap.size) : StU Z (l ++ [x]) v' w2 := by
  have hs := h.bel.size
  refine ⟨?_, (h.bel.alloc hs _).grown hg (by simp; omega) (fun k hk => h.new k hk), ?_⟩
  · rw [List.length_append]
    unfold uRow at *
    rw [List.map_append]
    exact hr
  · intro b hb
    rcases hw with e1 | e1
    · rw [e1] at hb
      exact h.new b hb
    · rw [e1] at hb
      simp at hb
      omega
theorem mapM_u_next {fs : List (List UInt8)} {i : Nat} {f : List UInt8} {us : List Nat} {x : Nat} (h : (fs.take i).mapM natP = some us) (hf : fs[i]? = some f) (hx : natP f = some x) : (fs.take (i + 1)).mapM natP = some (us ++ [x]) := by
  rw [List.take_add_one, hf, List.mapM_append, h]
  simp [hx]
theorem mapM_u_none {fs : List (List UInt8)} {i : Nat} {f : List UInt8} (hf : fs[i]? = some f) (hx : natP f = none) : fs.mapM natP = none := by
  have e : fs = fs.take i ++ f :: fs.drop (i + 1) := by
    obtain ⟨hi, rfl⟩ := List.getElem?_eq_some_iff.1 hf
    rw [← List.drop_eq_getElem_cons hi, List.take_append_drop]
  rw [e, List.mapM_append]
  cases (fs.take i).mapM natP with
  | none => rfl
  | some us => simp [hx]
theorem mapM_u_len {fs : List (List UInt8)} : ∀ {us : List Nat}, fs.mapM natP = some us → us.length = fs.length := by
  induction fs with
  | nil => intro us h; simp at h; subst h; rfl
  | cons f r ih =>
    intro us h
    simp only [List.mapM_cons, Option.bind_eq_bind, Option.bind_eq_some_iff, Option.pure_def, Option.some.injEq] at h
    obtain ⟨b, hb, r', hr', rfl⟩ := h
    simp [ih hr']
def NumsStU (W : World) (fs : List (List UInt8)) (e : Ending) (W' : World) : Prop := (∃ us v, fs.mapM natP = some us ∧ e = .returned (.tuple #[v, .bool true]) ∧ StU W us v W') ∨ (fs.mapM natP = none ∧ e = .returned (.tuple #[.slice none 0 0, .bool false]) ∧ Below W.heap.size W W')
set_option maxRecDepth 100000 in
set_option maxHeartbeats 4000000 in
theorem nums_u (p : Option Addr) (c : Nat) (fs : List (List UInt8)) (hl : fs.length ≤ 200000000) (hf : ∀ f ∈ fs, f.length ≤ 200000000) (W : World) (T : Tb W) (h : SRd W p fs) :
    Calls Tryz.prog 77 #[.func (.func 78) #[] #[], .slice p fs.length c] W (NumsStU W fs) := by
  have HNA := keepH (fun f (hm : f ∈ fs) w (hb : Below W.heap.size W w) => natural_any f (hf f hm) w (T.on hb))
  have HR := keepH h
  obtain ⟨n, hn⟩ : ∃ n, n = fs.length := ⟨_, rfl⟩
  have HN := keepH hn
  rw [← hn] at hl ⊢
  obtain ⟨i0, hi0, hz0, hz1, hz2⟩ := info_parts infoUk
  have HI := keepH hi0
  clear h T hf hn hi0
  go_enter Tryz.func77, Tryz.ntmps77
  go_wp2_with fail
  go_loopw [6, 13] (fun v s wr => ∃ i : Nat, i ≤ n ∧ s = .int .i64 (i : Int) ∧ Hid (∃ us, (fs.take i).mapM natP = some us ∧ StU W us v wr)) (fun _ s _ => n - (intOf s).toNat)
  case atStart => exact ⟨0, by omega, rfl, keepH ⟨[], by simp, World.ownsRow_nil _ _ _ _, Below.refl _ _, fun b hb => by simp [Value.ownBlock] at hb⟩⟩
  case round =>
    obtain ⟨i, him, rfl, HK⟩ := hrel
    obtain ⟨us, hus, hst⟩ := HK.out
    have HUS := keepH hus
    have HST := keepH hst
    have hul : us.length ≤ n := by
      rw [mapM_u_len hus, List.length_take]
      omega
    clear hus hst HK
    by_cases hlt : i < n
    · have t1 : (i : Int) < (n : Int) := by omega
      have t0 : (0 : Int) ≤ (i : Int) := by omega
      obtain ⟨f, hfi⟩ : ∃ f, fs[i]? = some f := ⟨fs[i]'(by have := HN.out; omega), List.getElem?_eq_getElem _⟩
      obtain ⟨bk, off, rfl, hbk, c0⟩ := (HR.out.on HST.out.bel).get i f hfi
      have HQ := keepH (HNA.out f (List.mem_of_getElem? hfi) wr HST.out.bel)
      have HFI := keepH hfi
      obtain ⟨sf, hsf⟩ : ∃ s, s = mkS f := ⟨_, rfl⟩
      rw [← hsf] at c0 HQ
      clear hfi hsf
      go_wp2_with fail
      refine HQ.out.mono ?_
      rintro e w2 ⟨v2, rfl, hv, B2⟩
      have HS2 := keepH (HST.out.on B2)
      clear B2 c0
      rcases hv with ⟨x, hx, rfl⟩ | ⟨hx, x, rfl⟩
      · have HNX := keepH (mapM_u_next HUS.out HFI.out hx)
        obtain ⟨fl, hfl⟩ : ∃ fl, fl = us.length := ⟨_, rfl⟩
        have hfl2 : fl ≤ 200000000 := by omega
        have HRW : Hid (w2.ownsRow 0 23 1 u6 fl (uRow us)) := keepH (by rw [hfl]; exact HS2.out.row)
        have hi0 := HI.out
        have HFL := keepH hfl
        clear hfl hx
        go_wp2_with (first | (at_builtin; refine wpList_append_own_at _ rfl (.tmp 25) (.tmp 27) 26 rfl 0 23 i0 (.int .u64 0) 1 8 Tryz.underlying26 hi0 hz0 hz1 hz2 rfl (by decide) u6 fl (uRow us) rfl (HRW.out.alloc _) ⟨w2.heap.size, 0, none⟩ 1 1 [.int .u64 (x : Int)] rfl rfl (cells_newR _ _ rfl _ _) (by intro u hu; simp at hu; subst hu; rfl) (by unfold maxLen; omega) (by omega) (Nat.zero_le _) ?_; intro v9 w9 r1 r2 r3 r4; have R1 := keepH r1; have R2 := keepH r2; have R4 := keepH r4; clear r1 r2 r3 r4) | go_in)
        have HNS := keepH (HS2.out.more (x := x) (by rw [← HFL.out]; exact R1.out) R2.out R4.out)
        go_roundw
        case rel => exact ⟨i + 1, by omega, by first | rfl | go_num, keepH ⟨_, HNX.out, HNS.out⟩⟩
        case measure => simp [intOf]; omega
      · have HNO := keepH (mapM_u_none HFI.out hx)
        clear hx
        go_wp2_with fail
        go_ret2
        exact .inr ⟨HNO.out, by simp, HS2.out.bel⟩
    · obtain rfl : i = n := by omega
      have t1 : ¬ (i : Int) < (i : Int) := by omega
      have hu := HUS.out
      rw [HN.out, List.take_length] at hu
      have HU := keepH hu
      clear hu
      go_wp2_with fail
      go_ret2
      exact .inl ⟨us, u6, HU.out, by simp, HST.out⟩
structure StZ (Z : World) (l : List Int) (v : Value) (wr : World) : Prop where
  row : wr.ownsRow 0 3 1 v l.length (zRow l)
  bel : Below Z.heap.size Z wr
  new : ∀ b, v.ownBlock = some b → Z.heap.size ≤ b
theorem StZ.on {Z : World} {l : List Int} {v : Value} {wr X : World} (h : StZ Z l v wr) (hb : Below wr.heap.size wr X) : StZ Z l v X :=
  ⟨row_kept h.row fun b hb' => hb.block b (row_lt h.row b hb'), below_chain h.bel hb, h.new⟩
theorem StZ.more {Z : World} {l : List Int} {v v' : Value} {w1 w2 : World} {x : Int} {o : Obj} (h : StZ Z l v w1) (hr : w2.ownsRow 0 3 1 v' (l.length + 1) (zRow l ++ [.int .i64 x])) (hg : (w1.alloc o).grownBy w2 v.ownBlock) (hw : v'.ownBlock = v.ownBlock ∨ v'.ownBlock = some (w1.alloc o).heap.size) : StZ Z (l ++ [x]) v' w2 := by
  have hs := h.bel.size
  refine ⟨?_, (h.bel.alloc hs _).grown hg (by simp; omega) (fun k hk => h.new k hk), ?_⟩
  · rw [List.length_append]
    unfold zRow at *
    rw [List.map_append]
    exact hr
  · intro b hb
    rcases hw with e1 | e1
    · rw [e1] at hb
      exact h.new b hb
    · rw [e1] at hb
      simp at hb
      omega
theorem mapM_z_next {fs : List (List UInt8)} {i : Nat} {f : List UInt8} {us : List Int} {x : Int} (h : (fs.take i).mapM intP = some us) (hf : fs[i]? = some f) (hx : intP f = some x) : (fs.take (i + 1)).mapM intP = some (us ++ [x]) := by
  rw [List.take_add_one, hf, List.mapM_append, h]
  simp [hx]
theorem mapM_z_none {fs : List (List UInt8)} {i : Nat} {f : List UInt8} (hf : fs[i]? = some f) (hx : intP f = none) : fs.mapM intP = none := by
  have e : fs = fs.take i ++ f :: fs.drop (i + 1) := by
    obtain ⟨hi, rfl⟩ := List.getElem?_eq_some_iff.1 hf
    rw [← List.drop_eq_getElem_cons hi, List.take_append_drop]
  rw [e, List.mapM_append]
  cases (fs.take i).mapM intP with
  | none => rfl
  | some us => simp [hx]
theorem mapM_z_len {fs : List (List UInt8)} : ∀ {us : List Int}, fs.mapM intP = some us → us.length = fs.length := by
  induction fs with
  | nil => intro us h; simp at h; subst h; rfl
  | cons f r ih =>
    intro us h
    simp only [List.mapM_cons, Option.bind_eq_bind, Option.bind_eq_some_iff, Option.pure_def, Option.some.injEq] at h
    obtain ⟨b, hb, r', hr', rfl⟩ := h
    simp [ih hr']
def NumsStZ (W : World) (fs : List (List UInt8)) (e : Ending) (W' : World) : Prop := (∃ us v, fs.mapM intP = some us ∧ e = .returned (.tuple #[v, .bool true]) ∧ StZ W us v W') ∨ (fs.mapM intP = none ∧ e = .returned (.tuple #[.slice none 0 0, .bool false]) ∧ Below W.heap.size W W')
set_option maxRecDepth 100000 in
set_option maxHeartbeats 4000000 in
theorem nums_z (p : Option Addr) (c : Nat) (fs : List (List UInt8)) (hl : fs.length ≤ 200000000) (hf : ∀ f ∈ fs, f.length ≤ 200000000) (W : World) (T : Tb W) (h : SRd W p fs) :
    Calls Tryz.prog 99 #[.func (.func 100) #[] #[], .slice p fs.length c] W (NumsStZ W fs) := by
  have HNA := keepH (fun f (hm : f ∈ fs) w (hb : Below W.heap.size W w) => integer_any f (hf f hm) w (T.on hb))
  have HR := keepH h
  obtain ⟨n, hn⟩ : ∃ n, n = fs.length := ⟨_, rfl⟩
  have HN := keepH hn
  rw [← hn] at hl ⊢
  obtain ⟨i0, hi0, hz0, hz1, hz2⟩ := info_parts infoZ
  have HI := keepH hi0
  clear h T hf hn hi0
  go_enter Tryz.func99, Tryz.ntmps99
  go_wp2_with fail
  go_loopw [6, 13] (fun v s wr => ∃ i : Nat, i ≤ n ∧ s = .int .i64 (i : Int) ∧ Hid (∃ us, (fs.take i).mapM intP = some us ∧ StZ W us v wr)) (fun _ s _ => n - (intOf s).toNat)
  case atStart => exact ⟨0, by omega, rfl, keepH ⟨[], by simp, World.ownsRow_nil _ _ _ _, Below.refl _ _, fun b hb => by simp [Value.ownBlock] at hb⟩⟩
  case round =>
    obtain ⟨i, him, rfl, HK⟩ := hrel
    obtain ⟨us, hus, hst⟩ := HK.out
    have HUS := keepH hus
    have HST := keepH hst
    have hul : us.length ≤ n := by
      rw [mapM_z_len hus, List.length_take]
      omega
    clear hus hst HK
    by_cases hlt : i < n
    · have t1 : (i : Int) < (n : Int) := by omega
      have t0 : (0 : Int) ≤ (i : Int) := by omega
      obtain ⟨f, hfi⟩ : ∃ f, fs[i]? = some f := ⟨fs[i]'(by have := HN.out; omega), List.getElem?_eq_getElem _⟩
      obtain ⟨bk, off, rfl, hbk, c0⟩ := (HR.out.on HST.out.bel).get i f hfi
      have HQ := keepH (HNA.out f (List.mem_of_getElem? hfi) wr HST.out.bel)
      have HFI := keepH hfi
      obtain ⟨sf, hsf⟩ : ∃ s, s = mkS f := ⟨_, rfl⟩
      rw [← hsf] at c0 HQ
      clear hfi hsf
      go_wp2_with fail
      refine HQ.out.mono ?_
      rintro e w2 ⟨v2, rfl, hv, B2⟩
      have HS2 := keepH (HST.out.on B2)
      clear B2 c0
      rcases hv with ⟨x, hx, rfl⟩ | ⟨hx, x, rfl⟩
      · have HNX := keepH (mapM_z_next HUS.out HFI.out hx)
        obtain ⟨fl, hfl⟩ : ∃ fl, fl = us.length := ⟨_, rfl⟩
        have hfl2 : fl ≤ 200000000 := by omega
        have HRW : Hid (w2.ownsRow 0 3 1 u6 fl (zRow us)) := keepH (by rw [hfl]; exact HS2.out.row)
        have hi0 := HI.out
        have HFL := keepH hfl
        clear hfl hx
        go_wp2_with (first | (at_builtin; refine wpList_append_own_at _ rfl (.tmp 25) (.tmp 27) 44 rfl 0 3 i0 (.int .i64 0) 1 8 Tryz.underlying44 hi0 hz0 hz1 hz2 rfl (by decide) u6 fl (zRow us) rfl (HRW.out.alloc _) ⟨w2.heap.size, 0, none⟩ 1 1 [.int .i64 x] rfl rfl (cells_newR _ _ rfl _ _) (by intro u hu; simp at hu; subst hu; rfl) (by unfold maxLen; omega) (by omega) (Nat.zero_le _) ?_; intro v9 w9 r1 r2 r3 r4; have R1 := keepH r1; have R2 := keepH r2; have R4 := keepH r4; clear r1 r2 r3 r4) | go_in)
        have HNS := keepH (HS2.out.more (x := x) (by rw [← HFL.out]; exact R1.out) R2.out R4.out)
        go_roundw
        case rel => exact ⟨i + 1, by omega, by first | rfl | go_num, keepH ⟨_, HNX.out, HNS.out⟩⟩
        case measure => simp [intOf]; omega
      · have HNO := keepH (mapM_z_none HFI.out hx)
        clear hx
        go_wp2_with fail
        go_ret2
        exact .inr ⟨HNO.out, by simp, HS2.out.bel⟩
    · obtain rfl : i = n := by omega
      have t1 : ¬ (i : Int) < (i : Int) := by omega
      have hu := HUS.out
      rw [HN.out, List.take_length] at hu
      have HU := keepH hu
      clear hu
      go_wp2_with fail
      go_ret2
      exact .inl ⟨us, u6, HU.out, by simp, HST.out⟩
end Go.Proofs.YtmmaniolaljjlaaGreatDoor
/- A handle that is read: the texts' cuts. (mkScl.py) -/
namespace Go.Proofs.YtmmaniolaljjlaaGreatDoor
open Go.RowKit Go.Shelf
set_option linter.unusedVariables false

/-- strings.Cut at a dot -/
theorem cutI_dot (l r : List UInt8) (hl : l.length + r.length ≤ 200000000) (hn : noB 46 l) (w : World) :
    Calls Tryz.prog 91 #[.string (mkS (l ++ 46 :: r)), .string ⟨#[46]⟩] w fun e w' => e = .returned (.tuple #[.string (mkS l), .string (mkS r), .bool true]) ∧ Below w.heap.size w w' := by
  have hix := Any.stringslite_Index_one Tryz.lays219 (mkS (l ++ 46 :: r)) 46 w
  rw [show Lib.indexByte (mkS (l ++ 46 :: r)).data.toList 46 = (l.length : Int) from ix_at hn] at hix
  have hsz : (mkS (l ++ 46 :: r)).size = l.length + 1 + r.length := by rw [mkS_size]; simp; omega
  have e1 : mkS l = (mkS (l ++ 46 :: r)).extract 0 l.length := by rw [mkS_extract]; simp
  have e2 : mkS r = (mkS (l ++ 46 :: r)).extract (l.length + 1) (mkS (l ++ 46 :: r)).size := by
    rw [mkS_extract, hsz]
    congr 1
    rw [show l ++ 46 :: r = (l ++ [46]) ++ r by simp, List.drop_left' (by simp), List.take_of_length_le (by omega)]
  rw [e1, e2]
  obtain ⟨s, hs⟩ : ∃ s, s = mkS (l ++ 46 :: r) := ⟨_, rfl⟩
  rw [← hs] at hix hsz ⊢
  obtain ⟨n, hn⟩ : ∃ n, n = l.length := ⟨_, rfl⟩
  rw [← hn] at hix ⊢
  have k1 : (0 : Int) ≤ (n : Int) := by omega
  have k2 : (n : Int) ≤ (s.size : Int) := by omega
  have k3 : (0 : Int) ≤ (n : Int) + 1 := by omega
  have k4 : (n : Int) + 1 ≤ (s.size : Int) := by omega
  have k5 : IntKind.i64.wrap ((n : Int) + 1) = (n : Int) + 1 := by rw [IntKind.wrap_i64]; omega
  have k6 : wrap64 ((n : Int) + 1) = (n : Int) + 1 := by unfold wrap64; omega
  clear e1 e2 hs hn hsz
  go_enter Tryz.func91, Tryz.ntmps91
  go_wp2_with (go_at_call 112; refine hix.mono ?_; rintro e w' ⟨rfl, rfl⟩)
  have mixed := Tryz.lays219.mixed
  go_region_o
  go_wp2
  go_ret3
  exact ⟨rfl, below_drewN (Below.refl _ _) 1⟩
theorem cutI_nodot (l : List UInt8) (hn : noB 46 l) (w : World) :
    Calls Tryz.prog 91 #[.string (mkS l), .string ⟨#[46]⟩] w fun e w' => e = .returned (.tuple #[.string (mkS l), .string (mkS []), .bool false]) ∧ Below w.heap.size w w' := by
  have hix := Any.stringslite_Index_one Tryz.lays219 (mkS l) 46 w
  rw [show Lib.indexByte (mkS l).data.toList 46 = -1 from ix_none hn] at hix
  go_enter Tryz.func91, Tryz.ntmps91
  go_wp2_with (go_at_call 112; refine hix.mono ?_; rintro e w' ⟨rfl, rfl⟩)
  go_ret3
  exact ⟨rfl, Below.refl _ _⟩
theorem cut_dot (l r : List UInt8) (hl : l.length + r.length ≤ 200000000) (hn : noB 46 l) (w : World) :
    Calls Tryz.prog 53 #[.string (mkS (l ++ 46 :: r)), .string ⟨#[46]⟩] w fun e w' => e = .returned (.tuple #[.string (mkS l), .string (mkS r), .bool true]) ∧ Below w.heap.size w w' := by
  have h := cutI_dot l r hl hn w
  obtain ⟨s, hs⟩ : ∃ s, s = mkS (l ++ 46 :: r) := ⟨_, rfl⟩
  rw [← hs] at h ⊢
  clear hs
  go_enter Tryz.func53, Tryz.ntmps53
  go_wp2_with fail
  refine h.mono ?_
  rintro e w1 ⟨rfl, hb⟩
  go_wp2
  go_ret3
  exact ⟨rfl, hb⟩
theorem cut_nodot (l : List UInt8) (hn : noB 46 l) (w : World) :
    Calls Tryz.prog 53 #[.string (mkS l), .string ⟨#[46]⟩] w fun e w' => e = .returned (.tuple #[.string (mkS l), .string (mkS []), .bool false]) ∧ Below w.heap.size w w' := by
  have h := cutI_nodot l hn w
  go_enter Tryz.func53, Tryz.ntmps53
  go_wp2_with fail
  refine h.mono ?_
  rintro e w1 ⟨rfl, hb⟩
  go_wp2
  go_ret3
  exact ⟨rfl, hb⟩

set_option maxRecDepth 100000 in
theorem hasP_any (t : List UInt8) (ht : t.length ≤ 200000000) (w : World) : Calls Tryz.prog 145 #[.string (mkS t), .string ⟨#[64]⟩] w fun e w' => e = .returned (.bool (decide (t.head? = some 64))) ∧ w' = w := by
  cases t with
  | nil =>
    have hsz : (mkS ([] : List UInt8)).size = 0 := rfl
    obtain ⟨s, hs⟩ : ∃ s, s = mkS ([] : List UInt8) := ⟨_, rfl⟩
    rw [← hs] at hsz ⊢
    clear hs
    have t1 : ¬ ((s.size : Int) ≥ 1) := by omega
    go_enter Tryz.func145, Tryz.ntmps145
    go_wp2_with fail
    go_ret
    exact ⟨by simp, rfl⟩
  | cons c r =>
    have hsz : (mkS (c :: r)).size = r.length + 1 := by rw [mkS_size]; rfl
    have hx : (mkS (c :: r)).extract 0 1 = mkS [c] := by rw [mkS_extract]; rfl
    have hq : (((mkS (c :: r)).extract 0 1).toList == [64]) = decide (c = 64) := by
      rw [hx, mkS_toList, Bool.eq_iff_iff]
      simp
    obtain ⟨s, hs⟩ : ∃ s, s = mkS (c :: r) := ⟨_, rfl⟩
    rw [← hs] at hsz hq ⊢
    have e : decide ((c :: r).head? = some 64) = decide (c = 64) := by simp
    rw [e]
    obtain ⟨d, hd⟩ : ∃ d, d = decide (c = 64) := ⟨_, rfl⟩
    rw [← hd] at hq ⊢
    clear hs hx hd e
    have t1 : ((s.size : Int) ≥ 1) := by omega
    have t2 : (1 : Int) ≤ (s.size : Int) := by omega
    go_enter Tryz.func145, Tryz.ntmps145
    go_wp2_with fail
    go_ret
    exact ⟨by simp, rfl⟩
set_option maxRecDepth 100000 in
theorem cutP_yes (r : List UInt8) (ht : r.length ≤ 100000000) (w : World) : Calls Tryz.prog 98 #[.string (mkS (64 :: r)), .string ⟨#[64]⟩] w fun e w' => e = .returned (.tuple #[.string (mkS r), .bool true]) ∧ w' = w := by
  have h := hasP_any (64 :: r) (by simp; omega) w
  rw [show decide ((64 :: r).head? = some 64) = true by simp] at h
  have hsz : (mkS (64 :: r)).size = r.length + 1 := by rw [mkS_size]; rfl
  have hx : mkS r = (mkS (64 :: r)).extract 1 (mkS (64 :: r)).size := by rw [mkS_extract, hsz]; congr 1; simp
  rw [hx]
  obtain ⟨s, hs⟩ : ∃ s, s = mkS (64 :: r) := ⟨_, rfl⟩
  rw [← hs] at h hsz ⊢
  clear hs hx
  have t2 : (1 : Int) ≤ (s.size : Int) := by omega
  clear hsz
  have hI : Calls Tryz.prog 120 #[.string s, .string ⟨#[64]⟩] w fun e w' => e = .returned (.tuple #[.string (s.extract 1 s.size), .bool true]) ∧ w' = w := by
    go_enter Tryz.func120, Tryz.ntmps120
    go_wp2_with fail
    refine h.mono ?_
    rintro e w1 ⟨rfl, rfl⟩
    go_wp2_with fail
    go_ret2
    exact ⟨by simp, rfl⟩
  clear h t2
  go_enter Tryz.func98, Tryz.ntmps98
  go_wp2_with fail
  refine hI.mono ?_
  rintro e w1 ⟨rfl, rfl⟩
  go_wp2_with fail
  go_ret2
  exact ⟨by simp, rfl⟩
set_option maxRecDepth 100000 in
theorem cutP_no (t : List UInt8) (ht : t.length ≤ 200000000) (hn : t.head? ≠ some 64) (w : World) : Calls Tryz.prog 98 #[.string (mkS t), .string ⟨#[64]⟩] w fun e w' => e = .returned (.tuple #[.string (mkS t), .bool false]) ∧ w' = w := by
  have h := hasP_any t ht w
  rw [show decide (t.head? = some 64) = false by simpa using hn] at h
  obtain ⟨s, hs⟩ : ∃ s, s = mkS t := ⟨_, rfl⟩
  rw [← hs] at h ⊢
  clear hs hn
  have hI : Calls Tryz.prog 120 #[.string s, .string ⟨#[64]⟩] w fun e w' => e = .returned (.tuple #[.string s, .bool false]) ∧ w' = w := by
    go_enter Tryz.func120, Tryz.ntmps120
    go_wp2_with fail
    refine h.mono ?_
    rintro e w1 ⟨rfl, rfl⟩
    go_wp2_with fail
    go_ret2
    exact ⟨by simp, rfl⟩
  clear h
  go_enter Tryz.func98, Tryz.ntmps98
  go_wp2_with fail
  refine hI.mono ?_
  rintro e w1 ⟨rfl, rfl⟩
  go_wp2_with fail
  go_ret2
  exact ⟨by simp, rfl⟩
end Go.Proofs.YtmmaniolaljjlaaGreatDoor
/- A handle that is read, by the program. -/
namespace Go.Proofs.YtmmaniolaljjlaaGreatDoor
open Go.RowKit Go.Shelf
set_option linter.unusedVariables false

def HdQ (t : List UInt8) (ok : Bool) (hnd : Nat) (set : Bool) (rt ri : Int) : Prop := (ok = true → isU hnd ∧ isI rt ∧ isI ri ∧ rhB hnd set rt ri = true ∧ t = hText hnd set rt ri) ∧
  (∀ h s a b, isU h → isI a → isI b → rhB h s a b = true → t = hText h s a b → ok = true ∧ hnd = h ∧ set = s ∧ rt = a ∧ ri = b)
theorem dec_head (u : Nat) : (Lib.decDigits u).head? ≠ some 64 := by
  intro h
  have hm : (64 : UInt8) ∈ Lib.decDigits u := List.mem_of_mem_head? (by rw [h]; rfl)
  have := dec_digit u 64 hm
  revert this; decide
theorem hText_head {h : Nat} {s : Bool} {a b : Int} : (hText h s a b).head? = some 64 ↔ s = true := by
  cases s with
  | false => simp only [hText]; constructor
             · intro e; exact absurd e (dec_head h)
             · intro e; simp at e
  | true => simp [hText]
theorem hd_nat {t : List UInt8} {u : Nat} (h : natP t = some u) : HdQ t true u false 0 0 := by
  obtain ⟨e, hu⟩ := natP_some h
  refine ⟨fun _ => ⟨hu, ⟨by omega, by omega⟩, ⟨by omega, by omega⟩, rfl, e⟩, fun h' s a b hh ha hb hr he => ?_⟩
  cases s with
  | true =>
    exfalso
    have := (hText_head (h := h') (s := true) (a := a) (b := b)).2 rfl
    rw [← he, e] at this
    exact dec_head u this
  | false =>
    have e2 : t = Lib.decDigits h' := he
    rw [e2, natP_dec h' hh] at h
    simp only [Option.some.injEq] at h
    simp [rhB] at hr
    exact ⟨rfl, h.symm, rfl, hr.1.symm, hr.2.symm⟩
theorem hd_nonat {t : List UInt8} (h : natP t = none) (hn : t.head? ≠ some 64) (x : Nat) : HdQ t false x false 0 0 := by
  refine ⟨fun e => by simp at e, fun h' s a b hh ha hb hr he => ?_⟩
  exfalso
  cases s with
  | true =>
    have := (hText_head (h := h') (s := true) (a := a) (b := b)).2 rfl
    rw [← he] at this
    exact hn this
  | false =>
    have e2 : t = Lib.decDigits h' := he
    rw [e2, natP_dec h' hh] at h
    simp at h
theorem itoa_ne (v : Int) : Lib.itoa v ≠ [] := by
  by_cases h : v < 0
  · obtain ⟨u, rfl, hu⟩ : ∃ u : Nat, v = -(u : Int) ∧ 1 ≤ u := ⟨(-v).toNat, by omega, by omega⟩
    rw [Lib.itoa_neg u hu]; simp
  · obtain ⟨u, rfl⟩ : ∃ u : Nat, v = (u : Int) := ⟨v.toNat, by omega⟩
    rw [Lib.itoa_nonneg]; exact dec_ne u
theorem intP_nil : intP [] = none := by
  cases h : intP [] with
  | none => rfl
  | some v =>
    have e := (intP_some h).1
    have := itoa_ne v
    exact absurd e.symm this
def CutP (r l q : List UInt8) : Prop := (r = l ++ 46 :: q ∧ noB 46 l) ∨ (noB 46 r ∧ l = r ∧ q = [])
theorem noB_first (b : UInt8) : ∀ (r : List UInt8), (∃ l q, r = l ++ b :: q ∧ noB b l) ∨ noB b r
  | [] => .inr (noB_nil b)
  | c :: r => by
    by_cases h : c = b
    · exact .inl ⟨[], r, by rw [h]; rfl, noB_nil b⟩
    · rcases noB_first b r with ⟨l, q, e, hl⟩ | hr
      · exact .inl ⟨c :: l, q, by rw [e]; rfl, hl.cons h⟩
      · exact .inr (hr.cons h)
theorem cutDot_any (r : List UInt8) (hr : r.length ≤ 100000000) (w : World) : Calls Tryz.prog 53 #[.string (mkS r), .string ⟨#[46]⟩] w fun e w' => ∃ l q b, e = .returned (.tuple #[.string (mkS l), .string (mkS q), .bool b]) ∧ CutP r l q ∧ Below w.heap.size w w' := by
  rcases noB_first 46 r with ⟨l, q, rfl, hl⟩ | hn
  · refine (cut_dot l q (by simp at hr; omega) hl w).mono ?_
    rintro e w' ⟨rfl, hb⟩
    exact ⟨l, q, true, rfl, .inl ⟨rfl, hl⟩, hb⟩
  · refine (cut_nodot r hn w).mono ?_
    rintro e w' ⟨rfl, hb⟩
    exact ⟨r, [], false, rfl, .inr ⟨hn, rfl, rfl⟩, hb⟩
theorem itoa_dot (n : Int) : noB 46 (Lib.itoa n) := by
  intro x hx e
  subst e
  have := itoa_byte n 46 hx
  revert this; decide
theorem hd_ref {r l q : List UInt8} {a b : Int} (hc : CutP r l q) (h : [l, q].mapM intP = some [a, b]) : HdQ (64 :: r) (rhB 0 true a b) 0 true a b ∧ isI a ∧ isI b := by
  simp only [List.mapM_cons, List.mapM_nil, Option.bind_eq_bind, Option.bind_eq_some_iff, Option.pure_def, Option.some.injEq] at h
  obtain ⟨a', h1, r', ⟨b', h2, r'', hr'', rfl⟩, hh⟩ := h
  subst hr''
  simp only [List.cons.injEq, and_true] at hh
  obtain ⟨rfl, rfl⟩ := hh
  obtain ⟨e1, r1, r2⟩ := intP_some h1
  obtain ⟨e2, r3, r4⟩ := intP_some h2
  rcases hc with ⟨rfl, hl⟩ | ⟨_, rfl, rfl⟩
  · refine ⟨⟨fun ho => ⟨by unfold isU; omega, ⟨r1, r2⟩, ⟨r3, r4⟩, ho, ?_⟩, fun h' s c d hh hc hd hr he => ?_⟩, ⟨r1, r2⟩, ⟨r3, r4⟩⟩
    · rw [e1, e2]; simp [hText]
    · have hs : s = true := hText_head.1 (by rw [← he]; rfl)
      subst hs
      have e3 : l ++ 46 :: q = Lib.itoa c ++ 46 :: Lib.itoa d := by simpa [hText] using he
      obtain ⟨e4, e5⟩ := noB_cutG hl (itoa_dot c) e3
      rw [e4, intP_itoa c hc.1 hc.2] at h1
      rw [e5, intP_itoa d hd.1 hd.2] at h2
      simp only [Option.some.injEq] at h1 h2
      subst h1 h2
      have h0 : h' = 0 := by simp [rhB] at hr; exact hr.1
      subst h0
      exact ⟨hr, rfl, rfl, rfl, rfl⟩
  · rw [intP_nil] at h2
    simp at h2
theorem hd_noref {r l q : List UInt8} (hc : CutP r l q) (h : [l, q].mapM intP = none) : HdQ (64 :: r) false 0 false 0 0 := by
  refine ⟨fun e => by simp at e, fun h' s c d hh hc' hd hr he => ?_⟩
  exfalso
  have hs : s = true := hText_head.1 (by rw [← he]; rfl)
  subst hs
  have e3 : r = Lib.itoa c ++ 46 :: Lib.itoa d := by simpa [hText] using he
  rcases hc with ⟨rfl, hl⟩ | ⟨hn, _, _⟩
  · obtain ⟨e4, e5⟩ := noB_cutG hl (itoa_dot c) e3
    rw [e4, e5] at h
    simp [intP_itoa c hc'.1 hc'.2, intP_itoa d hd.1 hd.2] at h
  · exact hn 46 (by rw [e3]; simp) rfl
def RdQ (W : World) (P k : Nat) (t : List UInt8) (e : Ending) (W' : World) : Prop := ∃ ok hnd set rt ri, e = .returned (.bool ok) ∧ W'.heap[P]? = some (.cells (opR k 0 0 0 hnd set rt ri (.slice none 0 0) 0 0) 28 (0, 0)) ∧ HdQ t ok hnd set rt ri ∧ Chg (fun b => b = P) W W'
theorem chg_of_below {W X : World} {P : Nat} (h : Below W.heap.size W X) : Chg (fun b => b = P) W X := ⟨h.os, h.tape, h.output, h.size, fun k hk _ => h.block k hk⟩
theorem chg_setP {W X : World} {P : Nat} (h : Chg (fun b => b = P) W X) (i : Nat) (v : Value) : Chg (fun b => b = P) W (X.setCell ⟨P, i, none⟩ v) := h.setCell (fun _ => rfl) v

set_option maxRecDepth 100000 in
set_option maxHeartbeats 4000000 in
theorem readH_nat (P k : Nat) (t : List UInt8) (ht : t.length ≤ 100000000) (hn : t.head? ≠ some 64) (W : World) (T : Tb W) (hX : W.heap[P]? = some (.cells (opR k 0 0 0 0 false 0 0 (.slice none 0 0) 0 0) 28 (0, 0))) :
    Calls Tryz.prog 76 #[.pointer (some ⟨P, 0, none⟩), .string (mkS t)] W (RdQ W P k t) := by
  have h1 := cutP_no t (by omega) hn W
  have h2 := natural_any t (by omega) W T
  have HN := keepH hn
  have HX := keepH hX
  obtain ⟨s, hs⟩ : ∃ s, s = mkS t := ⟨_, rfl⟩
  rw [← hs] at h1 h2 ⊢
  have H2 := keepH h2
  clear hs hn hX T h2
  go_enter Tryz.func76, Tryz.ntmps76
  go_wp2_with fail
  refine h1.mono ?_
  rintro e w1 ⟨rfl, hw1⟩
  rw [hw1]
  clear hw1 h1
  go_wp2_with fail
  refine H2.out.mono ?_
  rintro e w2 ⟨v, rfl, hv, B2⟩
  have X2 := heap_below HX.out B2
  have HX2 := keepH X2
  have HB2 := keepH B2
  have p4 : w2.cell? ⟨P, 4, none⟩ = _ := cell_of X2 4
  have q4 : w2.frozen? ⟨P, 4, none⟩ = false := free_of X2 4
  clear B2 X2
  rcases hv with ⟨u, hu, rfl⟩ | ⟨hu, u, rfl⟩
  · have HU := keepH hu
    clear hu
    go_wp2_with fail
    go_ret
    exact ⟨true, u, false, 0, 0, by simp, set_of HX2.out 4 (.int .u64 (u : Int)), hd_nat HU.out, chg_setP (chg_of_below HB2.out) 4 _⟩
  · have HU := keepH hu
    clear hu
    go_wp2_with fail
    go_ret
    exact ⟨false, u, false, 0, 0, by simp, set_of HX2.out 4 (.int .u64 (u : Int)), hd_nonat HU.out HN.out u, chg_setP (chg_of_below HB2.out) 4 _⟩
theorem two_ints {W X : World} {v : Value} {us : List Int} (h : StZ W us v X) (hl : us.length = 2) : ∃ a b g c, us = [a, b] ∧ v = .slice (some ⟨g, 0, none⟩) 2 c ∧ X.cell? ⟨g, 0, none⟩ = some (.int .i64 a) ∧ X.cell? ⟨g, 1, none⟩ = some (.int .i64 b) ∧ W.heap.size ≤ g := by
  match us, hl with
  | [a, b], _ =>
    have hc := fun g (hg : v.ownBlock = some g) => h.row.cells (g := g) hg
    rcases h.row.2 with ⟨hv, h0⟩ | ⟨g, cap, cur, hv, _⟩
    · simp at h0
    · have c0 := hc g (by rw [hv]; rfl) 0 (.int .i64 a) rfl
      have c1 := hc g (by rw [hv]; rfl) 1 (.int .i64 b) rfl
      rw [Addr.add_mid] at c0 c1
      exact ⟨a, b, g, cap, rfl, hv, by simpa using c0, by simpa using c1, h.new g (by rw [hv]; rfl)⟩

set_option maxRecDepth 100000 in
set_option maxHeartbeats 8000000 in
theorem readH_ref (P k : Nat) (r : List UInt8) (ht : r.length ≤ 10000000) (W : World) (T : Tb W) (hX : W.heap[P]? = some (.cells (opR k 0 0 0 0 false 0 0 (.slice none 0 0) 0 0) 28 (0, 0))) :
    Calls Tryz.prog 76 #[.pointer (some ⟨P, 0, none⟩), .string (mkS (64 :: r))] W (RdQ W P k (64 :: r)) := by
  have h1 := cutP_yes r (by omega) W
  have h2 := cutDot_any r (by omega) W
  have HX := keepH hX
  have HNU := keepH (fun p c fs (hl : fs.length ≤ 200000000) (hf : ∀ f ∈ fs, f.length ≤ 200000000) w (hb : Below W.heap.size W w) (hr : SRd w p fs) => nums_z p c fs hl hf w (T.on hb) hr)
  have HRH := keepH (fun a b (ha : isI a) (hb : isI b) w => rh_any k 0 0 0 0 true a b (.slice none 0 0) 0 0 ha hb w)
  obtain ⟨s, hs⟩ : ∃ s, s = mkS (64 :: r) := ⟨_, rfl⟩
  obtain ⟨sr, hsr⟩ : ∃ s, s = mkS r := ⟨_, rfl⟩
  rw [← hs, ← hsr] at h1
  rw [← hsr] at h2
  rw [← hs]
  have H2 := keepH h2
  clear hs hsr hX T h2
  go_enter Tryz.func76, Tryz.ntmps76
  go_wp2_with fail
  refine h1.mono ?_
  rintro e w1 ⟨rfl, hw1⟩
  rw [hw1]
  clear hw1 h1
  go_wp2_with fail
  refine H2.out.mono ?_
  rintro e w2 ⟨l, q, bb, rfl, hc, B2⟩
  have hll : l.length ≤ 10000000 ∧ q.length ≤ 10000000 := by
    rcases hc with ⟨rfl, _⟩ | ⟨_, rfl, rfl⟩
    · simp at ht; omega
    · exact ⟨ht, by simp⟩
  obtain ⟨w3, hw3⟩ : ∃ w3, w3 = w2.alloc (.cells #[.string (mkS l), .string (mkS q)] 9) := ⟨_, rfl⟩
  have B3 : Below w2.heap.size w2 w3 := by rw [hw3]; exact below_alloc _ _
  have X3 : w3.heap[w2.heap.size]? = some (.cells #[.string (mkS l), .string (mkS q)] 9 (0, 0)) := by rw [hw3]; exact heap_alloc_new _ _
  have hsr : SRd w3 (some ⟨w2.heap.size, 0, none⟩) [l, q] := .inr ⟨_, 0, rfl, (Array.getElem?_eq_some_iff.1 X3).1, fun i f hf => by
    rw [cell_of X3 (0 + i)]
    match i, hf with
    | 0, hf => simp at hf; subst hf; rfl
    | 1, hf => simp at hf; subst hf; rfl
    | i + 2, hf => simp at hf⟩
  have HQ := keepH (HNU.out (some ⟨w2.heap.size, 0, none⟩) 2 [l, q] (by simp) (fun f hf => by simp at hf; rcases hf with rfl | rfl <;> omega) w3 (below_chain B2 B3) hsr)
  have HC := keepH hc
  have HX3 := keepH (heap_below (heap_below HX.out B2) B3)
  have HB3 := keepH (below_chain B2 B3)
  obtain ⟨sl, hsl⟩ : ∃ s, s = mkS l := ⟨_, rfl⟩
  obtain ⟨sq, hsq⟩ : ∃ s, s = mkS q := ⟨_, rfl⟩
  rw [← hsl, ← hsq] at hw3 ⊢
  have HW3 := keepH hw3
  clear hc B2 B3 X3 hsr hw3 hsl hsq hll
  go_wp2_with fail
  rw [← HW3.out]
  refine HQ.out.mono ?_
  rintro e w4 (⟨us, v, hm, rfl, hst⟩ | ⟨hm, rfl, B4⟩)
  · obtain ⟨a, b, g, c, rfl, rfl, c0, c1, hg⟩ := two_ints hst ((mapM_z_len hm).trans rfl)
    obtain ⟨hd, ia, ib⟩ := hd_ref HC.out hm
    have HD := keepH hd
    have HIA := keepH ia
    have HIB := keepH ib
    have HX4 := keepH (heap_below HX3.out hst.bel)
    have HB4 := keepH (below_chain HB3.out hst.bel)
    have p5 : w4.cell? ⟨P, 5, none⟩ = _ := cell_of HX4.out 5
    have p6 : w4.cell? ⟨P, 6, none⟩ = _ := cell_of HX4.out 6
    have p7 : w4.cell? ⟨P, 7, none⟩ = _ := cell_of HX4.out 7
    have q5 : w4.frozen? ⟨P, 5, none⟩ = false := free_of HX4.out 5
    have q6 : w4.frozen? ⟨P, 6, none⟩ = false := free_of HX4.out 6
    have q7 : w4.frozen? ⟨P, 7, none⟩ = false := free_of HX4.out 7
    have hne : P ≠ g := by
      have := (Array.getElem?_eq_some_iff.1 HX3.out).1
      omega
    clear hd ia ib hm hst hg
    go_wp2_with fail
    go_region
    obtain ⟨w6, hw6⟩ : ∃ w6, w6 = (((w4.setCell ⟨P, 5, none⟩ (.bool true)).setCell ⟨P, 6, none⟩ (.int .i64 a)).setCell ⟨P, 7, none⟩ (.int .i64 b)).drew := ⟨_, rfl⟩
    have HX6 : Hid (w6.heap[P]? = some (.cells (opR k 0 0 0 0 true a b (.slice none 0 0) 0 0) 28 (0, 0))) := keepH (by rw [hw6]; exact set_of (set_of (set_of HX4.out 5 (.bool true)) 6 (.int .i64 a)) 7 (.int .i64 b))
    have HC6 : Hid (Chg (fun x => x = P) W w6) := keepH (by rw [hw6]; exact (chg_setP (chg_setP (chg_setP (chg_of_below HB4.out) 5 _) 6 _) 7 _).drew)
    go_upto_region 11 with fail
    rw [← hw6]
    clear hw6 p5 p6 p7 q5 q6 q7 c0 c1
    have d0 : w6.cell? ⟨P, 0, none⟩ = _ := cell_of HX6.out 0
    have d1 : w6.cell? ⟨P, 1, none⟩ = _ := cell_of HX6.out 1
    have d2 : w6.cell? ⟨P, 2, none⟩ = _ := cell_of HX6.out 2
    have d3 : w6.cell? ⟨P, 3, none⟩ = _ := cell_of HX6.out 3
    have d4 : w6.cell? ⟨P, 4, none⟩ = _ := cell_of HX6.out 4
    have d5 : w6.cell? ⟨P, 5, none⟩ = _ := cell_of HX6.out 5
    have d6 : w6.cell? ⟨P, 6, none⟩ = _ := cell_of HX6.out 6
    have d7 : w6.cell? ⟨P, 7, none⟩ = _ := cell_of HX6.out 7
    have d8 : w6.cell? ⟨P, 8, none⟩ = _ := cell_of HX6.out 8
    have d9 : w6.cell? ⟨P, 9, none⟩ = _ := cell_of HX6.out 9
    have d10 : w6.cell? ⟨P, 10, none⟩ = _ := cell_of HX6.out 10
    go_wp2_with fail
    refine (HRH.out a b HIA.out HIB.out w6).mono ?_
    rintro e w7 ⟨rfl, B7⟩
    have HX7 := keepH (heap_below HX6.out B7)
    have HC7 := keepH (HC6.out.trans (chg_of_below (P := P) B7) (fun _ _ x => x) (fun _ _ x => x))
    clear B7 d0 d1 d2 d3 d4 d5 d6 d7 d8 d9 d10
    go_wp2_with fail
    go_ret
    exact ⟨_, 0, true, a, b, by simp, HX7.out, HD.out, HC7.out⟩
  · have HD := keepH (hd_noref HC.out hm)
    have HX4 := keepH (heap_below HX3.out B4)
    have HB4 := keepH (below_chain HB3.out B4)
    clear hm B4
    go_wp2_with fail
    go_ret
    exact ⟨false, 0, false, 0, 0, by simp, HX4.out, HD.out, chg_of_below HB4.out⟩
theorem readH_any (P k : Nat) (t : List UInt8) (ht : t.length ≤ 10000000) (W : World) (T : Tb W) (hX : W.heap[P]? = some (.cells (opR k 0 0 0 0 false 0 0 (.slice none 0 0) 0 0) 28 (0, 0))) :
    Calls Tryz.prog 76 #[.pointer (some ⟨P, 0, none⟩), .string (mkS t)] W (RdQ W P k t) := by
  by_cases hn : t.head? = some 64
  · match t, hn with
    | c :: r, hn =>
      simp at hn
      subst hn
      exact readH_ref P k r (by simp at ht; omega) W T hX
  · exact readH_nat P k t (by omega) hn W T hX
end Go.Proofs.YtmmaniolaljjlaaGreatDoor
/- The numbers that are read go into an operation, by the program. (mkScn.py) -/
namespace Go.Proofs.YtmmaniolaljjlaaGreatDoor
open Go.RowKit Go.Shelf
set_option linter.unusedVariables false

def frow (row : Array Value) (ns us : List Nat) : Array Value := (ns.zip us).foldl (fun r p => r.setIfInBounds p.1 (.int .u64 (p.2 : Int))) row
def fk (k : Nat) (us : List Nat) (o : Nat) : Nat := match (numK k).findIdx? (· == o) with | some i => us.getD i 0 | none => 0
theorem frow_next (row : Array Value) {ns us : List Nat} {i m u : Nat} (h : ns[i]? = some m) (hu : us[i]? = some u) : frow row (ns.take (i + 1)) us = (frow row (ns.take i) us).setIfInBounds m (.int .u64 (u : Int)) := by
  have e : ∀ (i : Nat) (ns us : List Nat), ns[i]? = some m → us[i]? = some u → (ns.take (i + 1)).zip us = (ns.take i).zip us ++ [(m, u)] := by
    intro i
    induction i with
    | zero =>
      intro ns us h hu
      match ns, us, h, hu with
      | a :: ns, b :: us, h, hu => simp at h hu; subst h hu; simp
    | succ i ih =>
      intro ns us h hu
      match ns, us, h, hu with
      | a :: ns, b :: us, h, hu =>
        have := ih ns us (by simpa using h) (by simpa using hu)
        simp only [List.take_succ_cons, List.zip_cons_cons, List.cons_append, List.cons.injEq, true_and]
        exact this
  unfold frow
  rw [e i ns us h hu]
  simp
theorem frow_size (l : List (Nat × Nat)) : ∀ row : Array Value, (l.foldl (fun r p => r.setIfInBounds p.1 (.int .u64 (p.2 : Int))) row).size = row.size := by
  induction l with
  | nil => intro row; rfl
  | cons a r ih => intro row; simp only [List.foldl_cons]; rw [ih]; simp
theorem frow_op (k hnd : Nat) (set : Bool) (rt ri : Int) (vk : Value) (us : List Nat) (hl : us.length = (numK k).length) : frow (opR k 0 0 0 hnd set rt ri vk 0 0) (numK k) us = opR k (fk k us 1) (fk k us 2) (fk k us 3) hnd set rt ri vk (fk k us 9) (fk k us 10) := by
  unfold fk frow
  unfold numK at hl ⊢
  split at hl
  · match us, hl with
    | [a], _ => simp [List.findIdx?, List.findIdx?.go]
  · match us, hl with
    | [a, b], _ => simp [List.findIdx?, List.findIdx?.go]
  · match us, hl with
    | [a], _ => simp [List.findIdx?, List.findIdx?.go]
  · match us, hl with
    | [a, b, c], _ => simp [List.findIdx?, List.findIdx?.go]
  · match us, hl with
    | [a, b], _ => simp [List.findIdx?, List.findIdx?.go]
  · match us, hl with
    | [a, b], _ => simp [List.findIdx?, List.findIdx?.go]
  · simp [List.findIdx?, List.findIdx?.go]
/-- what lies in memory while numbers go in -/
structure LS (W : World) (P F : Nat) (row fr : Array Value) (pv : Value) (ns : List Nat) (lp : Option Addr) (us : List Nat) (wr : World) : Prop where
  box : wr.heap[P]? = some (.cells row 28 (0, 0))
  fld : wr.heap[F]? = some (.cells fr 113 (0, 0))
  num : (ns = [] ∧ pv = .slice none 0 0) ∨ ∃ g, pv = .slice (some ⟨g, 0, none⟩) ns.length ns.length ∧ g ≠ P ∧ wr.heap[g]? = some (.cells (ns.map fun n => Value.pointer (some ⟨P, n, none⟩)).toArray 115 (0, 0))
  lst : us = [] ∨ ∃ g, lp = some ⟨g, 0, none⟩ ∧ g ≠ P ∧ ∀ (i x : Nat), us[i]? = some x → wr.cell? ⟨g, i, none⟩ = some (.int .u64 (x : Int))
  chg : Chg (fun b => b = P) W wr
  ne : F ≠ P
theorem LS.set {W : World} {P F : Nat} {row fr : Array Value} {pv : Value} {ns : List Nat} {lp : Option Addr} {us : List Nat} {wr : World} (h : LS W P F row fr pv ns lp us wr) (i : Nat) (v : Value) : LS W P F (row.setIfInBounds i v) fr pv ns lp us (wr.setCell ⟨P, i, none⟩ v) := by
  refine ⟨set_of h.box i v, other_of h.fld h.ne v, ?_, ?_, chg_setP h.chg i v, h.ne⟩
  · rcases h.num with x | ⟨g, h1, h2, h3⟩
    · exact .inl x
    · exact .inr ⟨g, h1, h2, other_of h3 h2 v⟩
  · rcases h.lst with x | ⟨g, h1, h2, h3⟩
    · exact .inl x
    · refine .inr ⟨g, h1, h2, fun j x hx => ?_⟩
      have := h3 j x hx
      rw [← this]
      exact World.cell?_of_block (w := wr) (Below.heap_setCell wr ⟨P, i, none⟩ v g h2)
theorem LS.ptr {W : World} {P F : Nat} {row fr : Array Value} {pp : Option Addr} {m : Nat} {ns : List Nat} {lp : Option Addr} {us : List Nat} {wr : World} (h : LS W P F row fr (.slice pp m m) ns lp us wr) {i o : Nat} (ho : ns[i]? = some o) : ∃ g, pp = some ⟨g, 0, none⟩ ∧ wr.cell? ⟨g, i, none⟩ = some (.pointer (some ⟨P, o, none⟩)) := by
  rcases h.num with ⟨rfl, _⟩ | ⟨g, h1, h2, h3⟩
  · simp at ho
  · refine ⟨g, by injection h1, ?_⟩
    rw [cell_of h3 i]
    simp [ho]
theorem LS.at {W : World} {P F : Nat} {row fr : Array Value} {pv : Value} {ns : List Nat} {lp : Option Addr} {us : List Nat} {wr : World} (h : LS W P F row fr pv ns lp us wr) {i x : Nat} (hx : us[i]? = some x) : ∃ g, lp = some ⟨g, 0, none⟩ ∧ wr.cell? ⟨g, i, none⟩ = some (.int .u64 (x : Int)) := by
  rcases h.lst with rfl | ⟨g, h1, h2, h3⟩
  · simp at hx
  · exact ⟨g, h1, h3 i x hx⟩
/-- what a filling leaves -/
def FiQ (W : World) (P k hnd : Nat) (set : Bool) (rt ri : Int) (lp : Option Addr) (us : List Nat) (c : Nat) (e : Ending) (W' : World) : Prop := Chg (fun b => b = P) W W' ∧
  ((kysK k = true ∧ ∃ ok, ok = decide (us.length ≤ 1024) ∧ e = .returned (.bool ok) ∧ W'.heap[P]? = some (.cells (opR k 0 0 0 hnd set rt ri (.slice lp us.length c) 0 0) 28 (0, 0))) ∨
   (kysK k = false ∧ us.length = (numK k).length ∧ e = .returned (.bool true) ∧ W'.heap[P]? = some (.cells (opR k (fk k us 1) (fk k us 2) (fk k us 3) hnd set rt ri (.slice none 0 0) (fk k us 9) (fk k us 10)) 28 (0, 0))) ∨
   (kysK k = false ∧ us.length ≠ (numK k).length ∧ e = .returned (.bool false)))
set_option maxRecDepth 100000 in
set_option maxHeartbeats 8000000 in
theorem fill_any (P k hnd : Nat) (set : Bool) (rt ri : Int) (h : Bool) (pp lp : Option Addr) (us : List Nat) (c : Nat) (hl : us.length ≤ 200000000) (W : World)
    (hX : W.heap[P]? = some (.cells (opR k 0 0 0 hnd set rt ri (.slice none 0 0) 0 0) 28 (0, 0)))
    (hN : (numK k = [] ∧ Value.slice pp (numK k).length (numK k).length = .slice none 0 0) ∨ ∃ g, Value.slice pp (numK k).length (numK k).length = .slice (some ⟨g, 0, none⟩) (numK k).length (numK k).length ∧ g ≠ P ∧ W.heap[g]? = some (.cells ((numK k).map fun n => Value.pointer (some ⟨P, n, none⟩)).toArray 115 (0, 0)))
    (hU : us = [] ∨ ∃ g, lp = some ⟨g, 0, none⟩ ∧ g ≠ P ∧ ∀ (i x : Nat), us[i]? = some x → W.cell? ⟨g, i, none⟩ = some (.int .u64 (x : Int))) :
    Calls Tryz.prog 79 #[.pointer (some ⟨P, 0, none⟩), .agg #[.bool h, .slice pp (numK k).length (numK k).length, .bool (kysK k)], .slice lp us.length c] W (FiQ W P k hnd set rt ri lp us c) := by
  obtain ⟨m, hm⟩ : ∃ m, m = (numK k).length := ⟨_, rfl⟩
  rw [← hm] at hN ⊢
  obtain ⟨n, hn⟩ : ∃ n, n = us.length := ⟨_, rfl⟩
  rw [← hn] at hl ⊢
  obtain ⟨kb, hkb⟩ : ∃ d, d = kysK k := ⟨_, rfl⟩
  rw [← hkb]
  obtain ⟨w1, hw1⟩ : ∃ w1, w1 = W.alloc (.cells #[.bool h, .slice pp m m, .bool kb] 113) := ⟨_, rfl⟩
  obtain ⟨F, hF⟩ : ∃ F, F = W.heap.size := ⟨_, rfl⟩
  have B1 : Below W.heap.size W w1 := by rw [hw1]; exact below_alloc _ _
  have S1 : LS W P F (opR k 0 0 0 hnd set rt ri (.slice none 0 0) 0 0) #[.bool h, .slice pp m m, .bool kb] (.slice pp m m) (numK k) lp us w1 := by
    have hx := (Array.getElem?_eq_some_iff.1 hX).1
    refine ⟨heap_below hX B1, by rw [hw1, hF]; exact heap_alloc_new _ _, ?_, ?_, chg_of_below B1, by omega⟩
    · rw [← hm]
      rcases hN with x | ⟨g, q1, q2, q3⟩
      · exact .inl x
      · exact .inr ⟨g, q1, q2, heap_below q3 B1⟩
    · rcases hU with x | ⟨g, q1, q2, q3⟩
      · exact .inl x
      · exact .inr ⟨g, q1, q2, fun i x hx => cell_below (q3 i x hx) B1⟩
  have HS1 := keepH S1
  have HW1 := keepH hw1
  have HF := keepH hF
  have HM := keepH hm
  have HN := keepH hn
  have HKB := keepH hkb
  have HLT := keepH (numK_lt k)
  have HTM := keepH (fun w => too_any k 0 0 0 hnd set rt ri lp n c 0 0 w)
  have hm3 : m ≤ 3 := by rw [hm]; exact numK_len k
  have HFO := keepH (fun hl => frow_op k hnd set rt ri (.slice none 0 0) us hl)
  clear hX hN hU hw1 hF B1 S1 hm hn hkb
  cases kb with
  | true =>
    have hk70 : k = 7 := by have := HKB.out; unfold kysK at this; simpa using this
    have HK7 := keepH hk70
    clear hk70
    have f2 : w1.cell? ⟨F, 2, none⟩ = some (.bool true) := cell_of HS1.out.fld 2
    have p8 : w1.cell? ⟨P, 8, none⟩ = _ := cell_of HS1.out.box 8
    have q8 : w1.frozen? ⟨P, 8, none⟩ = false := free_of HS1.out.box 8
    obtain ⟨w2, hw2⟩ : ∃ w2, w2 = w1.setCell ⟨P, 8, none⟩ (.slice lp n c) := ⟨_, rfl⟩
    have HX2 : Hid (w2.heap[P]? = some (.cells (opR k 0 0 0 hnd set rt ri (.slice lp n c) 0 0) 28 (0, 0))) := keepH (by rw [hw2]; exact set_of HS1.out.box 8 _)
    have HC2 : Hid (Chg (fun b => b = P) W w2) := keepH (by rw [hw2]; exact chg_setP HS1.out.chg 8 _)
    have HW2 := keepH hw2
    clear hw2
    go_enter Tryz.func79, Tryz.ntmps79
    go_upto_region 1 with fail
    rw [← HW1.out, ← HF.out]
    go_upto_region 3 with fail
    rw [← HW2.out]
    clear f2 p8 q8
    have d0 : w2.cell? ⟨P, 0, none⟩ = _ := cell_of HX2.out 0
    have d1 : w2.cell? ⟨P, 1, none⟩ = _ := cell_of HX2.out 1
    have d2 : w2.cell? ⟨P, 2, none⟩ = _ := cell_of HX2.out 2
    have d3 : w2.cell? ⟨P, 3, none⟩ = _ := cell_of HX2.out 3
    have d4 : w2.cell? ⟨P, 4, none⟩ = _ := cell_of HX2.out 4
    have d5 : w2.cell? ⟨P, 5, none⟩ = _ := cell_of HX2.out 5
    have d6 : w2.cell? ⟨P, 6, none⟩ = _ := cell_of HX2.out 6
    have d7 : w2.cell? ⟨P, 7, none⟩ = _ := cell_of HX2.out 7
    have d8 : w2.cell? ⟨P, 8, none⟩ = _ := cell_of HX2.out 8
    have d9 : w2.cell? ⟨P, 9, none⟩ = _ := cell_of HX2.out 9
    have d10 : w2.cell? ⟨P, 10, none⟩ = _ := cell_of HX2.out 10
    go_wp2_with fail
    refine (HTM.out w2).mono ?_
    rintro e w3 ⟨rfl, B3⟩
    have HX3 := keepH (heap_below HX2.out B3)
    have HC3 := keepH (HC2.out.trans (chg_of_below (P := P) B3) (fun _ _ x => x) (fun _ _ x => x))
    have HR : Hid ((!decide (k = 7 ∧ 1024 < n)) = decide (us.length ≤ 1024)) := keepH (by
      rw [← HN.out, Bool.eq_iff_iff]
      simp [HK7.out])
    obtain ⟨dd, hdd⟩ : ∃ d, d = decide (k = 7 ∧ 1024 < n) := ⟨_, rfl⟩
    rw [← hdd] at HR ⊢
    clear B3 d0 d1 d2 d3 d4 d5 d6 d7 d8 d9 d10 hdd
    go_wp2_with fail
    go_ret
    exact ⟨HC3.out, .inl ⟨HKB.out.symm, !dd, HR.out, by simp, by rw [← HN.out]; exact HX3.out⟩⟩
  | false =>
    have f1 : w1.cell? ⟨F, 1, none⟩ = some (.slice pp m m) := cell_of HS1.out.fld 1
    have f2 : w1.cell? ⟨F, 2, none⟩ = some (.bool false) := cell_of HS1.out.fld 2
    by_cases hnm : n = m
    · subst hnm
      go_enter Tryz.func79, Tryz.ntmps79
      go_upto_region 1 with fail
      rw [← HW1.out, ← HF.out]
      go_wp2_with fail
      clear f1 f2
      go_loopw [29] (fun s wr => ∃ i : Nat, i ≤ n ∧ s = .int .i64 (i : Int) ∧ Hid (LS W P F (frow (opR k 0 0 0 hnd set rt ri (.slice none 0 0) 0 0) ((numK k).take i) us) #[.bool h, .slice pp n n, .bool false] (.slice pp n n) (numK k) lp us wr)) (fun s _ => n - (intOf s).toNat)
      case atStart => exact ⟨0, by omega, rfl, keepH (by simpa [frow] using HS1.out)⟩
      case round =>
        obtain ⟨i, him, rfl, HR⟩ := hrel
        by_cases hlt : i < n
        · have t1 : (i : Int) < (n : Int) := by omega
          have t0 : (0 : Int) ≤ (i : Int) := by omega
          obtain ⟨o, ho⟩ : ∃ o, (numK k)[i]? = some o := ⟨(numK k)[i]'(by have := HM.out; omega), List.getElem?_eq_getElem _⟩
          obtain ⟨x, hx⟩ : ∃ x, us[i]? = some x := ⟨us[i]'(by have := HN.out; omega), List.getElem?_eq_getElem _⟩
          obtain ⟨g, rfl, p0⟩ := HR.out.ptr ho
          obtain ⟨g2, rfl, p3⟩ := HR.out.at hx
          have ho11 := HLT.out o (List.mem_of_getElem? ho)
          have hsz : o < (frow (opR k 0 0 0 hnd set rt ri (.slice none 0 0) 0 0) ((numK k).take i) us).size := by unfold frow; rw [frow_size]; exact ho11
          obtain ⟨u, hu⟩ : ∃ u, (frow (opR k 0 0 0 hnd set rt ri (.slice none 0 0) 0 0) ((numK k).take i) us)[o]? = some u := ⟨_, Array.getElem?_eq_getElem hsz⟩
          have p1 : wr.cell? ⟨P, o, none⟩ = some u := (cell_of HR.out.box o).trans hu
          have p2 : wr.frozen? ⟨P, o, none⟩ = false := free_of HR.out.box o
          have hst := HR.out.set o (.int .u64 (x : Int))
          rw [← frow_next _ ho hx] at hst
          have HST := keepH hst
          clear ho hx hu hsz hst
          go_wp2_with fail
          go_roundw
          case rel => exact ⟨i + 1, by omega, by first | rfl | go_num, HST⟩
          case measure => simp [intOf]; omega
        · obtain rfl : i = n := by omega
          have t1 : ¬ (i : Int) < (i : Int) := by omega
          have hf := HR.out
          have hlu : us.length = (numK k).length := by rw [← HN.out, ← HM.out]
          rw [HM.out, List.take_length, HFO.out hlu, ← HM.out] at hf
          have HG := keepH hf
          have HLU := keepH hlu
          clear hf hlu
          go_wp2_with fail
          go_ret
          exact ⟨HG.out.chg, .inr (.inl ⟨HKB.out.symm, HLU.out, by simp, HG.out.box⟩)⟩
    · have t1 : ¬ ((n : Int) = (m : Int)) := by omega
      have u1 : ((n : Int) != (m : Int)) = true := by simpa using t1
      have HNM := keepH hnm
      go_enter Tryz.func79, Tryz.ntmps79
      go_upto_region 1 with fail
      rw [← HW1.out, ← HF.out]
      go_wp2_with fail
      go_ret
      exact ⟨HS1.out.chg, .inr (.inr ⟨HKB.out.symm, by rw [← HN.out, ← HM.out]; exact HNM.out, by simp⟩)⟩
end Go.Proofs.YtmmaniolaljjlaaGreatDoor
/- Operations that are right, and their texts: what is pure. -/
namespace Go.Proofs.YtmmaniolaljjlaaGreatDoor
open Go.RowKit Go.Shelf
set_option linter.unusedVariables false

def faultO (o : Opx) : Nat := faultN o.k o.key o.val o.old o.hnd o.set o.rt o.ri none o.keys.length 0 o.lo o.hi
def rightO (o : Opx) : Prop := o.Ok ∧ faultO o = 0
def partO (o : Opx) : List (List UInt8) := partsO o.k o.key o.val o.old o.hnd o.set o.rt o.ri o.keys o.lo o.hi
def textO (o : Opx) : List UInt8 := opT o.k o.key o.val o.old o.hnd o.set o.rt o.ri o.keys o.lo o.hi
def PQ (t : List UInt8) (ok : Bool) (o : Opx) : Prop := (ok = true → rightO o ∧ t = textO o) ∧ ∀ o', rightO o' → t = textO o' → ok = true ∧ o = o'
theorem opW_no (k : Nat) : noB 32 (opW k) := by
  unfold opW
  by_cases h : k < 11
  · have : k = 0 ∨ k = 1 ∨ k = 2 ∨ k = 3 ∨ k = 4 ∨ k = 5 ∨ k = 6 ∨ k = 7 ∨ k = 8 ∨ k = 9 ∨ k = 10 := by omega
    rcases this with rfl | rfl | rfl | rfl | rfl | rfl | rfl | rfl | rfl | rfl | rfl <;> (unfold noB; decide)
  · rw [List.getD, List.getElem?_eq_none (by show 11 ≤ k; omega)]
    exact noB_nil 32
theorem hText_no (hnd : Nat) (set : Bool) (rt ri : Int) : noB 32 (hText hnd set rt ri) := by
  unfold hText
  split
  · have h1 := itoa_no rt 32 (by decide)
    have h2 := itoa_no ri 32 (by decide)
    refine ((noB.append ?_ h1).append ?_).append h2 <;> (unfold noB; decide)
  · exact (dec_no hnd).1
theorem part_no (o : Opx) : ∀ f ∈ partO o, noB 32 f := by
  intro f hf
  unfold partO partsO at hf
  simp only [List.mem_append, List.mem_map, List.mem_singleton] at hf
  rcases hf with ((rfl | hf) | ⟨i, _, rfl⟩) | hf
  · exact opW_no _
  · split at hf
    · simp at hf; subst hf; exact hText_no _ _ _ _
    · simp at hf
  · exact (dec_no _).1
  · split at hf
    · obtain ⟨u, hu, rfl⟩ := List.mem_map.1 hf
      exact (dec_no _).1
    · simp at hf
theorem part_ne (o : Opx) : partO o ≠ [] := by unfold partO partsO; simp
theorem text_iff (t : List UInt8) (o : Opx) : t = textO o ↔ Lib.split t [32] = partO o := by
  constructor
  · intro h
    rw [h]
    exact split_join _ (part_ne o) (part_no o)
  · intro h
    have := join_split t
    rw [h] at this
    exact this.symm
theorem natsM_some : ∀ {fs : List (List UInt8)} {us : List Nat}, fs.mapM natP = some us → fs = us.map Lib.decDigits ∧ ∀ u ∈ us, isU u
  | [], us, h => by simp at h; subst h; exact ⟨rfl, fun u hu => by simp at hu⟩
  | f :: r, us, h => by
    simp only [List.mapM_cons, Option.bind_eq_bind, Option.bind_eq_some_iff, Option.pure_def, Option.some.injEq] at h
    obtain ⟨b, hb, r', hr', rfl⟩ := h
    obtain ⟨e, hu⟩ := natP_some hb
    obtain ⟨e2, hu2⟩ := natsM_some hr'
    refine ⟨by rw [e, e2]; rfl, fun u hm => ?_⟩
    rcases List.mem_cons.1 hm with rfl | hm
    · exact hu
    · exact hu2 u hm
theorem natsM_dec : ∀ (us : List Nat), (∀ u ∈ us, isU u) → (us.map Lib.decDigits).mapM natP = some us
  | [], _ => rfl
  | u :: r, h => by
    simp only [List.map_cons, List.mapM_cons, natP_dec u (h u (by simp)), natsM_dec r (fun x hx => h x (by simp [hx]))]
    rfl
def nuO (o : Opx) : List Nat := (numK o.k).map (numAt o.key o.val o.old o.lo o.hi) ++ o.keys
structure RP (o : Opx) : Prop where
  has : hasK o.k = true
  parts : partO o = opW o.k :: ((if hndK o.k = true then [hText o.hnd o.set o.rt o.ri] else []) ++ (nuO o).map Lib.decDigits)
  hd : hndK o.k = true → rhB o.hnd o.set o.rt o.ri = true
  nohd : hndK o.k = false → o.hnd = 0 ∧ o.set = false ∧ o.rt = 0 ∧ o.ri = 0
  kys : kysK o.k = true → o.keys.length ≤ 1024
  nokys : kysK o.k = false → o.keys = []
  z1 : 1 ∉ numK o.k → o.key = 0
  z2 : 2 ∉ numK o.k → o.val = 0
  z3 : 3 ∉ numK o.k → o.old = 0
  z9 : 9 ∉ numK o.k → o.lo = 0
  z10 : 10 ∉ numK o.k → o.hi = 0
theorem right_parts {o : Opx} (h : rightO o) : RP o := by
  have hf := h.2
  unfold faultO faultN at hf
  cases e1 : hasK o.k with
  | false => rw [if_pos e1] at hf; simp at hf
  | true =>
    rw [if_neg (by rw [e1]; simp)] at hf
    split at hf
    · simp at hf
    · rename_i h7
      split at hf
      · simp at hf
      · rename_i hr
        have key : ∀ c : Bool, (if c = true then 0 else 52) = 0 → c = true := fun c h => by
          cases c with
          | true => rfl
          | false => simp at h
        have hb := key _ hf
        unfold blB at hb
        simp only [decide_eq_true_eq] at hb
        obtain ⟨⟨b1, b2, b3, b4, b9, b10⟩, ⟨c1, c2, c3⟩, d⟩ := hb
        have nk : kysK o.k = false → o.keys = [] := fun hk => by
          rw [hk] at d
          simp at d
          exact d
        refine ⟨e1, ?_, ?_, ?_, ?_, nk, ?_, ?_, ?_, ?_, ?_⟩
        · unfold partO partsO nuO
          cases hk : kysK o.k with
          | true => simp
          | false => rw [nk hk]; simp
        · intro hh
          cases e : rhB o.hnd o.set o.rt o.ri with
          | true => rfl
          | false => exact absurd ⟨hh, e⟩ hr
        · intro hh
          rw [hh] at b4 c1 c2 c3
          exact ⟨by simpa using b4, by simpa using c1, by simpa using c2, by simpa using c3⟩
        · intro hk
          have : o.k = 7 := by unfold kysK at hk; simpa using hk
          have := fun q => h7 ⟨this, q⟩
          omega
        · intro q; simpa [zk, q] using b1
        · intro q; simpa [zk, q] using b2
        · intro q; simpa [zk, q] using b3
        · intro q; simpa [zk, q] using b9
        · intro q; simpa [zk, q] using b10
theorem nu_u {o : Opx} (h : o.Ok) : ∀ u ∈ nuO o, isU u := by
  intro u hu
  unfold nuO at hu
  rcases List.mem_append.1 hu with hu | hu
  · obtain ⟨i, _, rfl⟩ := List.mem_map.1 hu
    exact numAt_u h.key h.val h.old h.lo h.hi i
  · exact h.keys u hu
theorem mk_right {o : Opx} (ok : o.Ok) (has : hasK o.k = true) (hd : hndK o.k = true → rhB o.hnd o.set o.rt o.ri = true) (nohd : hndK o.k = false → o.hnd = 0 ∧ o.set = false ∧ o.rt = 0 ∧ o.ri = 0) (kys : kysK o.k = true → o.keys.length ≤ 1024) (nokys : kysK o.k = false → o.keys = [])
    (z1 : 1 ∉ numK o.k → o.key = 0) (z2 : 2 ∉ numK o.k → o.val = 0) (z3 : 3 ∉ numK o.k → o.old = 0) (z9 : 9 ∉ numK o.k → o.lo = 0) (z10 : 10 ∉ numK o.k → o.hi = 0) : rightO o := by
  refine ⟨ok, ?_⟩
  unfold faultO faultN
  rw [if_neg (by rw [has]; simp), if_neg (by
    rintro ⟨h7, hl⟩
    have := kys (by unfold kysK; simpa using h7)
    omega), if_neg (by
    rintro ⟨h1, h2⟩
    rw [hd h1] at h2
    simp at h2), if_pos]
  unfold blB
  simp only [decide_eq_true_eq]
  have zz : ∀ i x, (i ∉ numK o.k → x = 0) → zk o.k i x = 0 := fun i x hx => by
    unfold zk
    split
    · rfl
    · rename_i q; exact hx q
  refine ⟨⟨zz 1 _ z1, zz 2 _ z2, zz 3 _ z3, ?_, zz 9 _ z9, zz 10 _ z10⟩, ⟨?_, ?_, ?_⟩, ?_⟩
  · cases e : hndK o.k with
    | true => simp
    | false => simpa using (nohd e).1
  · cases e : hndK o.k with
    | true => simp
    | false => simpa using (nohd e).2.1
  · cases e : hndK o.k with
    | true => simp
    | false => simpa using (nohd e).2.2.1
  · cases e : hndK o.k with
    | true => simp
    | false => simpa using (nohd e).2.2.2
  · cases e : kysK o.k with
    | true => simp
    | false => simpa using nokys e
theorem fk_none {k o : Nat} (us : List Nat) (h : o ∉ numK k) : fk k us o = 0 := by
  have : (numK k).findIdx? (· == o) = none := by
    rw [List.findIdx?_eq_none_iff]
    intro x hx
    simp
    intro e
    subst e
    exact h hx
  unfold fk
  rw [this]
theorem fk_u {k : Nat} {us : List Nat} (h : ∀ u ∈ us, isU u) (o : Nat) : isU (fk k us o) := by
  unfold fk
  split
  · rename_i i _
    cases e : us[i]? with
    | none => simp [List.getD, e]; unfold isU; omega
    | some x => simp [List.getD, e]; exact h x (List.mem_of_getElem? e)
  · unfold isU; omega
/-- the numbers that went in come out -/
theorem fk_nums (k : Nat) (us : List Nat) (hl : us.length = (numK k).length) : (numK k).map (numAt (fk k us 1) (fk k us 2) (fk k us 3) (fk k us 9) (fk k us 10)) = us := by
  unfold fk
  unfold numK at hl ⊢
  split at hl
  · match us, hl with
    | [a], _ => simp [List.findIdx?, List.findIdx?.go, numAt]
  · match us, hl with
    | [a, b], _ => simp [List.findIdx?, List.findIdx?.go, numAt]
  · match us, hl with
    | [a], _ => simp [List.findIdx?, List.findIdx?.go, numAt]
  · match us, hl with
    | [a, b, c], _ => simp [List.findIdx?, List.findIdx?.go, numAt]
  · match us, hl with
    | [a, b], _ => simp [List.findIdx?, List.findIdx?.go, numAt]
  · match us, hl with
    | [a, b], _ => simp [List.findIdx?, List.findIdx?.go, numAt]
  · match us, hl with
    | [], _ => simp
/-- numbers that are in the fields are the fields -/
theorem fk_of (k key val old lo hi : Nat) (z1 : 1 ∉ numK k → key = 0) (z2 : 2 ∉ numK k → val = 0) (z3 : 3 ∉ numK k → old = 0) (z9 : 9 ∉ numK k → lo = 0) (z10 : 10 ∉ numK k → hi = 0) :
    fk k ((numK k).map (numAt key val old lo hi)) 1 = key ∧ fk k ((numK k).map (numAt key val old lo hi)) 2 = val ∧ fk k ((numK k).map (numAt key val old lo hi)) 3 = old ∧ fk k ((numK k).map (numAt key val old lo hi)) 9 = lo ∧ fk k ((numK k).map (numAt key val old lo hi)) 10 = hi := by
  unfold fk
  unfold numK at *
  split at z1 <;> simp [List.findIdx?, List.findIdx?.go, numAt] at z1 z2 z3 z9 z10 ⊢ <;> simp_all
end Go.Proofs.YtmmaniolaljjlaaGreatDoor
