/- Numbers as texts, by the program; a text cut at a line's end, at blanks, and joined. -/
import Derived.Test.YtmmaniolaljjlaaGreatDoorRpa
import Derived.Test.YtmmaniolaljjlaaGreatDoorRpe
import Derived.Test.YtmmaniolaljjlaaGreatDoorRpf
namespace Go.Proofs.YtmmaniolaljjlaaGreatDoor
open Go.RowKit Go.Shelf
set_option linter.unusedVariables false

structure Tb (w : World) : Prop where
  tab : Lib.TabIs Tryz.prog w "internal/strconv.uint64pow10" .u64 Lib.pow10Tab
  es : ∃ tp p, w.var? Tryz.prog "strconv.ErrSyntax" = some #[.iface tp p]
  er : ∃ tp p, w.var? Tryz.prog "strconv.ErrRange" = some #[.iface tp p]
  ml : ∃ m, w.cell? ⟨Tryz.lays146_ren.g 1, 0, none⟩ = some (.int .i64 m)
theorem Tb.on {w w' : World} (h : Tb w) (hb : Below w.heap.size w w') : Tb w' := by
  obtain ⟨h1, ⟨a, b, h2⟩, ⟨c, d, h3⟩, ⟨m, h4⟩⟩ := h
  exact ⟨var_below h1 hb, ⟨a, b, var_below h2 hb⟩, ⟨c, d, var_below h3 hb⟩, ⟨m, cell_below h4 hb⟩⟩
theorem itoa_any (n : Int) (h0 : -9223372036854775808 ≤ n) (h1 : n < 9223372036854775808) (w : World) (T : Tb w) :
    Calls Tryz.prog 29 #[.int .i64 n] w fun e w' => e = .returned (.string (mkS (Lib.itoa n))) ∧ Below w.heap.size w w' := by
  refine (Any.strconv_Itoa Tryz.lays171 n h0 (by omega) w T.tab).mono ?_
  rintro e w' ⟨rfl, k, os, rfl⟩
  exact ⟨rfl, grow_below _ _ _⟩
set_option maxRecDepth 100000 in
theorem dec_any (u : Nat) (h : isU u) (w : World) (T : Tb w) :
    Calls Tryz.prog 36 #[.int .u64 (u : Int)] w fun e w' => e = .returned (.string (mkS (Lib.decDigits u))) ∧ Below w.heap.size w w' := by
  have hf := fmtU u h w T.tab
  go_enter Tryz.func36, Tryz.ntmps36
  go_wp2_with fail
  refine hf.mono ?_
  rintro e w1 ⟨rfl, hb⟩
  go_wp2
  go_ret
  exact ⟨rfl, hb⟩
theorem atoi_ok (f : List UInt8) (hf : f.length ≤ 200000000) (v : Int) (h : Lib.atoiAll f = .ok v) (w : World) :
    Calls Tryz.prog 81 #[.string (mkS f)] w fun e w' => e = .returned (.tuple #[.int .i64 v, .nilIface]) ∧ Below w.heap.size w w' := by
  refine (Any.strconv_Atoi_ok Tryz.lays172 (mkS f) (by rw [mkS_size]; omega) v (by simpa using h) w).mono ?_
  rintro e w' ⟨rfl, hw⟩
  refine ⟨rfl, ?_⟩
  rcases hw with rfl | ⟨t, rfl⟩
  · exact Below.refl _ _
  · exact Lib.bytesWorld_below _ _ _
theorem atoi_no (f : List UInt8) (hf : f.length ≤ 200000000) (h : ∀ v, Lib.atoiAll f ≠ .ok v) (w : World) (T : Tb w) :
    Calls Tryz.prog 81 #[.string (mkS f)] w fun e w' => (∃ (x : Int) (t : TypeId) (p : Value), e = .returned (.tuple #[.int .i64 x, .iface t p])) ∧ Below w.heap.size w w' := by
  cases hp : Lib.atoiAll f with
  | ok u => exact absurd hp (h u)
  | «syntax» =>
    obtain ⟨a, b, h2⟩ := T.es
    refine (Any.strconv_Atoi_syntax_var Tryz.lays172 (mkS f) (by rw [mkS_size]; omega) (by simpa using hp) a b w h2).mono ?_
    rintro e w' ⟨N, rfl, -, -, hb⟩
    exact ⟨⟨0, _, _, rfl⟩, hb⟩
  | range =>
    obtain ⟨a, b, h2⟩ := T.er
    refine (Any.strconv_Atoi_range_var Tryz.lays172 (mkS f) (by rw [mkS_size]; omega) (by simpa using hp) a b w h2).mono ?_
    rintro e w' ⟨N, rfl, -, -, hb⟩
    exact ⟨⟨_, _, _, rfl⟩, hb⟩
theorem pu_ok (l : List UInt8) (hl : l.length ≤ 200000000) (u : Nat) (h : Lib.parseMag l = .ok u) (w : World) :
    Calls Tryz.prog 101 #[.string (mkS l), .int .i64 10, .int .i64 64] w fun e w' => e = .returned (.tuple #[.int .u64 u, .nilIface]) ∧ Below w.heap.size w w' := by
  refine (Any.strconv_ParseUint_10_at64_ok Tryz.laysPu (mkS l) (by rw [mkS_size]; omega) u (by rw [← pu_mag] at h; simpa using h) w).mono ?_
  rintro e w' ⟨rfl, hw⟩
  refine ⟨rfl, ?_⟩
  rcases hw with rfl | rfl
  · exact Below.refl _ _
  · exact Lib.bytesWorld_below _ _ _
theorem pu_no (l : List UInt8) (hl : l.length ≤ 200000000) (h : ∀ u, Lib.parseMag l ≠ .ok u) (w : World) (T : Tb w) :
    Calls Tryz.prog 101 #[.string (mkS l), .int .i64 10, .int .i64 64] w fun e w' => (∃ (u : Nat) (t : TypeId) (p : Value), isU u ∧ e = .returned (.tuple #[.int .u64 u, .iface t p])) ∧ Below w.heap.size w w' := by
  cases hp : Lib.parseMag l with
  | ok u => exact absurd hp (h u)
  | «syntax» =>
    obtain ⟨a, b, h2⟩ := T.es
    refine (Any.strconv_ParseUint_10_at64_syntax_var Tryz.laysPu (mkS l) (by rw [mkS_size]; omega) (by rw [← pu_mag] at hp; simpa using hp) a b w h2).mono ?_
    rintro e w' ⟨N, rfl, -, -, hb⟩
    exact ⟨⟨0, _, _, okU0, rfl⟩, hb⟩
  | range =>
    obtain ⟨a, b, h2⟩ := T.er
    refine (Any.strconv_ParseUint_10_at64_range_var Tryz.laysPu (mkS l) (by rw [mkS_size]; omega) (by rw [← pu_mag] at hp; simpa using hp) a b w h2).mono ?_
    rintro e w' ⟨N, rfl, -, -, hb⟩
    exact ⟨⟨18446744073709551615, _, _, by unfold isU; omega, rfl⟩, hb⟩

/-- natural: a number, and whether the text is the one in which it is written -/
def natV (f : List UInt8) (v : Value) : Prop := (∃ u : Nat, natP f = some u ∧ v = .tuple #[.int .u64 (u : Int), .bool true]) ∨ (natP f = none ∧ ∃ u : Nat, v = .tuple #[.int .u64 (u : Int), .bool false])
set_option maxRecDepth 100000 in
theorem natural_any (f : List UInt8) (hf : f.length ≤ 200000000) (w : World) (T : Tb w) :
    Calls Tryz.prog 78 #[.string (mkS f)] w fun e w' => ∃ v, e = .returned v ∧ natV f v ∧ Below w.heap.size w w' := by
  by_cases hp : ∃ u, Lib.parseMag f = .ok u
  · obtain ⟨u, hp⟩ := hp
    have hu : isU u := Lib.parseMag_lt hp
    have h1 := pu_ok f hf u hp w
    have h2 := fun w1 (hb : Below w.heap.size w w1) => dec_any u hu w1 (T.on hb)
    have q : ((mkS (Lib.decDigits u)).toList == (mkS f).toList) = decide (Lib.decDigits u = f) := beq_mkS _ _
    obtain ⟨s, hs⟩ : ∃ s, s = mkS f := ⟨_, rfl⟩
    obtain ⟨s2, hs2⟩ : ∃ s, s = mkS (Lib.decDigits u) := ⟨_, rfl⟩
    obtain ⟨d, hd⟩ : ∃ d, d = decide (Lib.decDigits u = f) := ⟨_, rfl⟩
    rw [← hs, ← hs2, ← hd] at q
    rw [← hs] at h1 ⊢
    rw [← hs2] at h2
    have H2 := keepH h2
    have HD : Hid (d = decide (Lib.decDigits u = f)) := keepH hd
    have HP := keepH hp
    clear hs hs2 hd h2 hp T hu
    cases d
    · go_enter Tryz.func78, Tryz.ntmps78
      go_wp2_with fail
      refine h1.mono ?_
      rintro e w1 ⟨rfl, hb⟩
      have h2 := H2.out w1 hb
      go_wp2_with fail
      refine h2.mono ?_
      rintro e w2 ⟨rfl, hb2⟩
      go_wp2_with fail
      go_ret2
      exact ⟨_, rfl, Or.inr ⟨by unfold natP; rw [HP.out]; simp only; rw [if_neg (of_decide_eq_false HD.out.symm)], u, rfl⟩, below_chain hb hb2⟩
    · go_enter Tryz.func78, Tryz.ntmps78
      go_wp2_with fail
      refine h1.mono ?_
      rintro e w1 ⟨rfl, hb⟩
      have h2 := H2.out w1 hb
      go_wp2_with fail
      refine h2.mono ?_
      rintro e w2 ⟨rfl, hb2⟩
      go_wp2_with fail
      go_ret2
      exact ⟨_, rfl, Or.inl ⟨u, by unfold natP; rw [HP.out]; simp only; rw [if_pos (of_decide_eq_true HD.out.symm)], rfl⟩, below_chain hb hb2⟩
  · have h1 := pu_no f hf (fun u e => hp ⟨u, e⟩) w T
    have hnone : Hid (natP f = none) := keepH (by
      unfold natP
      split
      · rename_i u hu
        exact absurd ⟨u, hu⟩ hp
      · rfl)
    obtain ⟨s, hs⟩ : ∃ s, s = mkS f := ⟨_, rfl⟩
    rw [← hs] at h1 ⊢
    clear hs hp T
    go_enter Tryz.func78, Tryz.ntmps78
    go_wp2_with fail
    refine h1.mono ?_
    rintro e w1 ⟨⟨u, t, p, _, rfl⟩, hb⟩
    go_wp2_with fail
    go_ret2
    exact ⟨_, rfl, Or.inr ⟨hnone.out, u, rfl⟩, hb⟩
def intV (f : List UInt8) (v : Value) : Prop := (∃ u : Int, intP f = some u ∧ v = .tuple #[.int .i64 u, .bool true]) ∨ (intP f = none ∧ ∃ u : Int, v = .tuple #[.int .i64 u, .bool false])
set_option maxRecDepth 100000 in
theorem integer_any (f : List UInt8) (hf : f.length ≤ 200000000) (w : World) (T : Tb w) :
    Calls Tryz.prog 100 #[.string (mkS f)] w fun e w' => ∃ v, e = .returned v ∧ intV f v ∧ Below w.heap.size w w' := by
  by_cases hp : ∃ u, Lib.atoiAll f = .ok u
  · obtain ⟨u, hp⟩ := hp
    have hu := atoi_range hp
    have h1 := atoi_ok f hf u hp w
    have h2 := fun w1 (hb : Below w.heap.size w w1) => itoa_any u hu.1 hu.2 w1 (T.on hb)
    have q : ((mkS (Lib.itoa u)).toList == (mkS f).toList) = decide (Lib.itoa u = f) := beq_mkS _ _
    obtain ⟨s, hs⟩ : ∃ s, s = mkS f := ⟨_, rfl⟩
    obtain ⟨s2, hs2⟩ : ∃ s, s = mkS (Lib.itoa u) := ⟨_, rfl⟩
    obtain ⟨d, hd⟩ : ∃ d, d = decide (Lib.itoa u = f) := ⟨_, rfl⟩
    rw [← hs, ← hs2, ← hd] at q
    rw [← hs] at h1 ⊢
    rw [← hs2] at h2
    have H2 := keepH h2
    have HD : Hid (d = decide (Lib.itoa u = f)) := keepH hd
    have HP := keepH hp
    clear hs hs2 hd h2 hp T hu
    cases d
    · go_enter Tryz.func100, Tryz.ntmps100
      go_wp2_with fail
      refine h1.mono ?_
      rintro e w1 ⟨rfl, hb⟩
      have h2 := H2.out w1 hb
      go_wp2_with fail
      refine h2.mono ?_
      rintro e w2 ⟨rfl, hb2⟩
      go_wp2_with fail
      go_ret2
      exact ⟨_, rfl, Or.inr ⟨by unfold intP; rw [HP.out]; simp only; rw [if_neg (of_decide_eq_false HD.out.symm)], u, rfl⟩, below_chain hb hb2⟩
    · go_enter Tryz.func100, Tryz.ntmps100
      go_wp2_with fail
      refine h1.mono ?_
      rintro e w1 ⟨rfl, hb⟩
      have h2 := H2.out w1 hb
      go_wp2_with fail
      refine h2.mono ?_
      rintro e w2 ⟨rfl, hb2⟩
      go_wp2_with fail
      go_ret2
      exact ⟨_, rfl, Or.inl ⟨u, by unfold intP; rw [HP.out]; simp only; rw [if_pos (of_decide_eq_true HD.out.symm)], rfl⟩, below_chain hb hb2⟩
  · have h1 := atoi_no f hf (fun u e => hp ⟨u, e⟩) w T
    have hnone : Hid (intP f = none) := keepH (by
      unfold intP
      split
      · rename_i u hu
        exact absurd ⟨u, hu⟩ hp
      · rfl)
    obtain ⟨s, hs⟩ : ∃ s, s = mkS f := ⟨_, rfl⟩
    rw [← hs] at h1 ⊢
    clear hs hp T
    go_enter Tryz.func100, Tryz.ntmps100
    go_wp2_with fail
    refine h1.mono ?_
    rintro e w1 ⟨⟨u, t, p, rfl⟩, hb⟩
    go_wp2_with fail
    go_ret2
    exact ⟨_, rfl, Or.inr ⟨hnone.out, u, rfl⟩, hb⟩

theorem split_any (t : List UInt8) (ht : t.length ≤ 200000000) (w : World) (T : Tb w) :
    Calls Tryz.prog 74 #[.string (mkS t), .string ⟨#[32]⟩] w fun e w' => e = .returned (.slice (some ⟨w.heap.size, 0, none⟩) (Lib.split t [32]).length (Lib.split t [32]).length) ∧
      w' = w.alloc (.cells ((Lib.split t [32]).map (fun f => Value.string (mkS f))).toArray 9) := by
  obtain ⟨m, hm⟩ := T.ml
  refine (Any.strings_Split ({ Tryz.lays146 with } : Lays.n146 Tryz.prog Tryz.lays146_ren) (by kernel_rfl) (mkS t) ⟨#[32]⟩ m w (by rw [mkS_size]; omega) hm (by decide)).mono ?_
  rintro e w' ⟨rfl, rfl⟩
  have hl := Lib.splitB_all ⟨#[32]⟩ (by decide) 0 _ (mkS t) rfl
  have hd := Lib.splitB_data ⟨#[32]⟩ 0 (Lib.countB (mkS t) ⟨#[32]⟩) (mkS t)
  have hs : (Lib.splitB ⟨#[32]⟩ 0 (Lib.countB (mkS t) ⟨#[32]⟩) (mkS t)).map (·.data.toList) = Lib.split t [32] := hd
  have h2 : (Lib.split t [32]).length = Lib.countB (mkS t) ⟨#[32]⟩ + 1 := by rw [← hs, List.length_map, hl]
  rw [h2]
  refine ⟨rfl, ?_⟩
  congr 2
  rw [← hs, List.map_map]
  congr 1
theorem bXj : Builder.Extra Tryz.prog Tryz.lays156_ren where
  sizeBuilder := by kernel_rfl
  liesBuilder := by kernel_rfl
  t5 := Tryz.underlying5
  a5 := Tryz.isAgg5
  z5 := Tryz.sizeOf5
  v5 := Tryz.zeroValue5
  infoByte := by kernel_rfl
  cellsByte := by kernel_rfl
  sizeByte := by kernel_rfl
  neB5 := by decide
theorem join_any (bk c : Nat) (fs : List (List UInt8)) (w : World) (hcells : ∀ (j : Nat) f, fs[j]? = some f → w.cell? ⟨bk, j, none⟩ = some (.string (mkS f))) (hbk : bk < w.heap.size) (hN : fs.length ≤ 140737488355328) (hcap : fs.length ≤ c) (hlen : (Lib.join fs [32]).length ≤ 140737488355328) :
    Calls Tryz.prog 40 #[.slice (some ⟨bk, 0, none⟩) fs.length c, .string ⟨#[32]⟩] w fun e w' => e = .returned (.string (mkS (Lib.join fs [32]))) ∧ Below w.heap.size w w' := by
  have e1 : (fs.map mkS).map (·.data.toList) = fs := by rw [List.map_map]; simp [Function.comp_def]
  have h := Any.strings_Join Tryz.lays156 bXj bk 0 c (fs.map mkS) ⟨#[32]⟩ w (fun j x hx => by
    rw [List.getElem?_map] at hx
    obtain ⟨f, hf, rfl⟩ := Option.map_eq_some_iff.mp hx
    rw [Nat.zero_add]
    exact hcells j f hf) hbk (by simpa using hN) (by simpa using hcap) (by rw [e1]; exact hlen)
  rw [e1, List.length_map] at h
  exact h

/-- strings.Cut at a line's end -/
theorem cutI_end (l r : List UInt8) (hl : l.length + r.length ≤ 200000000) (hn : noB 10 l) (w : World) :
    Calls Tryz.prog 91 #[.string (mkS (l ++ 10 :: r)), .string ⟨#[10]⟩] w fun e w' => e = .returned (.tuple #[.string (mkS l), .string (mkS r), .bool true]) ∧ Below w.heap.size w w' := by
  have hix := Any.stringslite_Index_one Tryz.lays219 (mkS (l ++ 10 :: r)) 10 w
  rw [show Lib.indexByte (mkS (l ++ 10 :: r)).data.toList 10 = (l.length : Int) from ix_at hn] at hix
  have hsz : (mkS (l ++ 10 :: r)).size = l.length + 1 + r.length := by rw [mkS_size]; simp; omega
  have e1 : mkS l = (mkS (l ++ 10 :: r)).extract 0 l.length := by rw [mkS_extract]; simp
  have e2 : mkS r = (mkS (l ++ 10 :: r)).extract (l.length + 1) (mkS (l ++ 10 :: r)).size := by
    rw [mkS_extract, hsz]
    congr 1
    rw [show l ++ 10 :: r = (l ++ [10]) ++ r by simp, List.drop_left' (by simp), List.take_of_length_le (by omega)]
  rw [e1, e2]
  obtain ⟨s, hs⟩ : ∃ s, s = mkS (l ++ 10 :: r) := ⟨_, rfl⟩
  rw [← hs] at hix hsz ⊢
  obtain ⟨n, hn⟩ : ∃ n, n = l.length := ⟨_, rfl⟩
  rw [← hn] at hix ⊢
  have k1 : (0 : Int) ≤ (n : Int) := by omega
  have k2 : (n : Int) ≤ (s.size : Int) := by omega
  have k3 : (0 : Int) ≤ (n : Int) + 1 := by omega
  have k4 : (n : Int) + 1 ≤ (s.size : Int) := by omega
  have k5 : IntKind.i64.wrap ((n : Int) + 1) = (n : Int) + 1 := by rw [IntKind.wrap_i64]; omega
  have k6 : wrap64 ((n : Int) + 1) = (n : Int) + 1 := by unfold wrap64; omega
  clear e1 e2 hs hn hsz
  go_enter Tryz.func91, Tryz.ntmps91
  go_wp2_with (go_at_call 112; refine hix.mono ?_; rintro e w' ⟨rfl, rfl⟩)
  have mixed := Tryz.lays219.mixed
  go_region_o
  go_wp2
  go_ret3
  exact ⟨rfl, below_drewN (Below.refl _ _) 1⟩
theorem cutI_none (l : List UInt8) (hn : noB 10 l) (w : World) :
    Calls Tryz.prog 91 #[.string (mkS l), .string ⟨#[10]⟩] w fun e w' => e = .returned (.tuple #[.string (mkS l), .string (mkS []), .bool false]) ∧ Below w.heap.size w w' := by
  have hix := Any.stringslite_Index_one Tryz.lays219 (mkS l) 10 w
  rw [show Lib.indexByte (mkS l).data.toList 10 = -1 from ix_none hn] at hix
  go_enter Tryz.func91, Tryz.ntmps91
  go_wp2_with (go_at_call 112; refine hix.mono ?_; rintro e w' ⟨rfl, rfl⟩)
  go_ret3
  exact ⟨rfl, Below.refl _ _⟩
theorem cut_end (l r : List UInt8) (hl : l.length + r.length ≤ 200000000) (hn : noB 10 l) (w : World) :
    Calls Tryz.prog 53 #[.string (mkS (l ++ 10 :: r)), .string ⟨#[10]⟩] w fun e w' => e = .returned (.tuple #[.string (mkS l), .string (mkS r), .bool true]) ∧ Below w.heap.size w w' := by
  have h := cutI_end l r hl hn w
  obtain ⟨s, hs⟩ : ∃ s, s = mkS (l ++ 10 :: r) := ⟨_, rfl⟩
  rw [← hs] at h ⊢
  clear hs
  go_enter Tryz.func53, Tryz.ntmps53
  go_wp2_with fail
  refine h.mono ?_
  rintro e w1 ⟨rfl, hb⟩
  go_wp2
  go_ret3
  exact ⟨rfl, hb⟩
theorem cut_none (l : List UInt8) (hn : noB 10 l) (w : World) :
    Calls Tryz.prog 53 #[.string (mkS l), .string ⟨#[10]⟩] w fun e w' => e = .returned (.tuple #[.string (mkS l), .string (mkS []), .bool false]) ∧ Below w.heap.size w w' := by
  have h := cutI_none l hn w
  go_enter Tryz.func53, Tryz.ntmps53
  go_wp2_with fail
  refine h.mono ?_
  rintro e w1 ⟨rfl, hb⟩
  go_wp2
  go_ret3
  exact ⟨rfl, hb⟩
end Go.Proofs.YtmmaniolaljjlaaGreatDoor
