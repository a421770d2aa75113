/- A strings.Builder that is written and read, at this program. -/
import Derived.Test.YtmmaniolaljjlaaGreatDoorB3Shelf
import Derived.Lib.FrozenHead2
import Derived.Lib.Strings
import Derived.Lib.QuietBelow
import Derived.Laws.Concat
import Derived.Laws.Strings2
import Derived.Laws.Slices
import Derived.Shelf.Strconv.Itoa1
import Derived.Lib.ItoaMem
import Derived.Lib.AppendIntMem
import Derived.WalkKit
import Derived.BigCall
import Derived.BigGuard
import Derived.BigQuiet
import Derived.Below
import Derived.MapKept
import Derived.Maps.Keyed
import Derived.Deep.RegionHeld
import Derived.Deep.RegionHeld3
import Derived.Laws.Tables
namespace Go.Proofs.YtmmaniolaljjlaaGreatDoor
open Go.RowKit Go.Shelf
set_option linter.unusedVariables false

theorem cells_newR (w : World) (g : Nat) (hg : w.heap.size = g) (cs : Array Value) (t : TypeId) : ∀ j u, cs.toList[j]? = some u → (w.alloc (.cells cs t)).cell? ((⟨g, 0, none⟩ : Addr).add j) = some u := by
  intro j u h
  subst hg
  have e : (⟨w.heap.size, 0, none⟩ : Addr).add j = ⟨w.heap.size, j, none⟩ := by unfold Addr.add; split <;> simp_all
  rw [e]
  have hh : (w.alloc (.cells cs t)).heap[w.heap.size]? = some (.cells cs t (0, 0)) := heap_alloc_new _ _
  rw [cell_of hh j]
  simpa using h
theorem bX : Builder.Extra Tryz.prog Tryz.lays169_ren where
  sizeBuilder := by kernel_rfl
  liesBuilder := by kernel_rfl
  t5 := Tryz.underlying5
  a5 := Tryz.isAgg5
  z5 := Tryz.sizeOf5
  v5 := Tryz.zeroValue5
  infoByte := by kernel_rfl
  cellsByte := by kernel_rfl
  sizeByte := by kernel_rfl
  neB5 := by decide
set_option maxRecDepth 100000 in
theorem cc_used (b : Nat) (w : World) (h0 : w.cell? ⟨b, 0, none⟩ = some (.pointer (some ⟨b, 0, none⟩))) :
    Calls Tryz.prog 82 #[.pointer (some ⟨b, 0, none⟩)] w fun e w' => e = .returned (.tuple #[]) ∧ w' = w := by
  obtain ⟨j, hj, _⟩ := Option.map_eq_some_iff.1 bX.sizeBuilder
  have hsame : ∀ W, (binOp .neq 76 (.pointer (some ⟨b, 0, none⟩)) (.pointer (some ⟨b, 0, none⟩))).run Tryz.prog W = .ok (.bool false) W := fun W => Lib.run_neq_ptr_same W _ Tryz.underlying76 hj
  go_enter Tryz.func82, Tryz.ntmps82
  go_wp2
  go_end0
  exact ⟨rfl, rfl⟩
set_option maxRecDepth 100000 in
theorem cc_fresh (b : Nat) (w : World) (h0 : w.cell? ⟨b, 0, none⟩ = some (.pointer none)) (hsh : w.shape? b = some (79, 2)) (hfz : w.frozen? ⟨b, 0, none⟩ = false) :
    Calls Tryz.prog 82 #[.pointer (some ⟨b, 0, none⟩)] w fun e w' => e = .returned (.tuple #[]) ∧ w' = w.setCell ⟨b, 0, none⟩ (.pointer (some ⟨b, 0, none⟩)) := by
  obtain ⟨j, hj, hjs⟩ := Option.map_eq_some_iff.1 bX.sizeBuilder
  have t1 := Lib.run_to_unsafe (P := Tryz.prog) w ⟨b, 0, none⟩ Tryz.underlying76 Tryz.underlying162 hj (by rw [hjs]; decide) hsh (Nat.zero_lt_succ 1)
  have hsame : ∀ W, (binOp .neq 76 (.pointer (some ⟨b, 0, none⟩)) (.pointer (some ⟨b, 0, none⟩))).run Tryz.prog W = .ok (.bool false) W := fun W => Lib.run_neq_ptr_same W _ Tryz.underlying76 hj
  have t3 := Lib.run_from_unsafe (P := Tryz.prog) w ⟨b, 0, none⟩ Tryz.underlying162 Tryz.underlying76 hj hsh bX.liesBuilder
  go_enter Tryz.func82, Tryz.ntmps82
  go_wp2
  rw [run_callFunc_extern Tryz.func104 (by kernel_rfl) (by kernel_rfl) (by kernel_rfl) (e := Extern.AbiNoEscape.same) (by kernel_rfl), Lib.run_noEscape]
  simp only [Result.andThen]
  rw [Oper.upon_value]
  go_wp2
  go_end0
  exact ⟨rfl, rfl⟩
theorem cc_any (B b : Nat) (bs : List Value) (w : World) (h : Lib.IsBuilderF 79 5 B b bs w) :
    Calls Tryz.prog 82 #[.pointer (some ⟨b, 0, none⟩)] w fun e w' => e = .returned (.tuple #[]) ∧ Lib.BuilderAtF 79 5 B b (.pointer (some ⟨b, 0, none⟩)) bs w' ∧ Below B w w' ∧ Lib.OthersKept 5 (some b) w w' := by
  rcases h with h | h
  · refine (cc_fresh b w h.cell0 h.shape h.frozen0).mono ?_
    rintro e w' ⟨rfl, rfl⟩
    exact ⟨rfl, h.used _, (Below.refl B w).setCell (p := ⟨b, 0, none⟩) h.1 _, (Lib.OthersKept.refl _ _ w).setCell ⟨b, 0, none⟩ rfl _⟩
  · refine (cc_used b w h.cell0).mono ?_
    rintro e w' ⟨rfl, rfl⟩
    exact ⟨rfl, h, Below.refl B _, Lib.OthersKept.refl _ _ _⟩
set_option maxHeartbeats 2000000 in
set_option maxRecDepth 100000 in
theorem ws_any (B b : Nat) (bs : List Value) (s : ByteArray) (w : World) (h : Lib.IsBuilderF 79 5 B b bs w) (hlen : bs.length + s.size ≤ 140737488355328) (hBw : B ≤ w.heap.size) :
    Calls Tryz.prog 39 #[.pointer (some ⟨b, 0, none⟩), .string s] w fun e w' => e = .returned (.tuple #[.int .i64 s.size, .nilIface]) ∧ Lib.IsBuilderF 79 5 B b (bs ++ Lib.strCells s) w' ∧ Below B w w' ∧ Lib.OthersKept 5 (some b) w w' := by
  obtain ⟨i0, hi, hz0, hz1, hz2⟩ := info_parts bX.infoByte
  go_enter Tryz.func39, Tryz.ntmps39
  go_wp2_with (go_at_call 82; refine (cc_any B b bs _ h).mono ?_; rintro e w1 ⟨rfl, h1, hb1, hk1⟩; refine Hid.out ?_)
  obtain ⟨hB, v, hbk, hown, hne⟩ := h1
  have c0 := cell_of hbk 0
  have c1 := cell_of hbk 1
  refine Lib.hid ?_
  go_wp2_with (at_builtin; refine Lib.wpList_append_own_stringF _ rfl _ _ 77 9 rfl B 5 i0 Tryz.underlying77 Tryz.underlying9 hi hz0 hz1 hz2 _ _ _ rfl hown s rfl ?c3 ?c4 ?c5 ?_)
  case c3 => unfold maxLen; omega
  case c4 => omega
  case c5 => have := hb1.size; omega
  intro v' w2 hown' hgrow _
  have hlt := lt_of hbk
  have hb2 : w2.heap[b]? = some (.cells #[.pointer (some ⟨b, 0, none⟩), v] 79 (0, 0)) := (hgrow.block b hlt (fun e => hne e.symm)).trans hbk
  have d0 := cell_of hb2 0
  have d1 := cell_of hb2 1
  have f1 := free_of hb2 1
  obtain ⟨ao, n', cap, rfl⟩ : ∃ ao n' cap, v' = .slice ao n' cap := by
    rcases hown'.2 with ⟨hv, _⟩ | ⟨g, cap, cur, fz, hv, _⟩
    · exact ⟨_, _, _, hv⟩
    · exact ⟨_, _, _, hv⟩
  go_wp2
  go_ret2
  refine ⟨rfl, Or.inr (Lib.BuilderAtF.put (T := 79) (e := 5) hB hb2 (bs' := bs ++ Lib.strCells s) (by simpa [Lib.strCells_length] using hown') (by decide)), ?_, (hk1.grown hgrow (Lib.ownsRowF_kind hown)).setCell ⟨b, 1, none⟩ rfl _⟩
  exact (hb1.grown hgrow (by have := hb1.size; omega) (fun k hk => (hown.lt k hk).1)).setCell (p := ⟨b, 1, none⟩) hB _
theorem bs_any (B b : Nat) (l : List UInt8) (w : World) (h : Lib.IsBuilderF 79 5 B b (Lib.byteCells l) w) (hBw : B ≤ w.heap.size) :
    Calls Tryz.prog 43 #[.pointer (some ⟨b, 0, none⟩)] w fun e w' => e = .returned (.string ⟨l.toArray⟩) ∧ Below B w w' ∧ Lib.OthersKept 5 (some b) w w' := by
  refine (Any.Builder_String_any_k Tryz.lays169 bX B b l w h hBw).mono ?_
  rintro e w' ⟨rfl, _, h2, h3⟩
  exact ⟨rfl, h2, h3⟩
end Go.Proofs.YtmmaniolaljjlaaGreatDoor
/- Strings as lists of bytes; what stays behind calls that only lay blocks. -/
namespace Go.Proofs.YtmmaniolaljjlaaGreatDoor
open Go.RowKit
set_option linter.unusedVariables false

abbrev mkS (l : List UInt8) : ByteArray := ⟨l.toArray⟩
theorem mkS_data (s : ByteArray) : mkS s.data.toList = s := Lib.mk_data s
theorem mkS_size (l : List UInt8) : (mkS l).size = l.length := by show l.toArray.size = _; simp
theorem mkS_extract (l : List UInt8) (a b : Nat) : (mkS l).extract a b = mkS ((l.drop a).take (b - a)) := Lib.extract_eq _ _ _
theorem mkS_toList (l : List UInt8) : (mkS l).toList = l := by
  exact Lib.toList_data _
theorem beq_mkS (l r : List UInt8) : ((mkS l).toList == (mkS r).toList) = decide (l = r) := by
  rw [mkS_toList, mkS_toList]
  by_cases h : l = r
  · simp [h]
  · simp [h]
theorem mkS_append (a b : List UInt8) : mkS a ++ mkS b = mkS (a ++ b) := by
  apply ByteArray.ext
  simp [ByteArray.data_append]
theorem add_str (a b : List UInt8) (h : a.length + b.length ≤ 140737488355328) : ∀ W, (Op.stringOp .add (mkS a) (mkS b)).run Tryz.prog W = .ok (.string (mkS (a ++ b))) W := fun W => by
  rw [run_string_add_sum W _ _ (by rw [mkS_size, mkS_size]; omega), mkS_append]

theorem var_below {P : Program} {w w' : World} {n : String} {cs : Array Value} (h : w.var? P n = some cs) (hb : Below w.heap.size w w') : w'.var? P n = some cs := by
  unfold World.var? at *
  cases hg : P.globalNamed n with
  | none => simp [hg] at h
  | some g =>
    simp only [hg, Option.bind_some] at h ⊢
    have hlt : g < w.heap.size := by
      rcases Nat.lt_or_ge g w.heap.size with h' | h'
      · exact h'
      · rw [Array.getElem?_eq_none h'] at h; simp at h
    rw [hb.block g hlt]
    exact h
theorem cell_below {w w' : World} {g i : Nat} {v : Value} (h : w.cell? ⟨g, i, none⟩ = some v) (hb : Below w.heap.size w w') : w'.cell? ⟨g, i, none⟩ = some v := by
  have hlt : g < w.heap.size := by
    rcases Nat.lt_or_ge g w.heap.size with h' | h'
    · exact h'
    · simp [World.cell?, Array.getElem?_eq_none h'] at h
  simp only [World.cell?] at h ⊢
  rw [hb.block g hlt]
  exact h
theorem below_chain {w w1 w2 : World} (h : Below w.heap.size w w1) (k : Below w1.heap.size w1 w2) : Below w.heap.size w w2 := h.trans (k.mono h.size)
theorem below_alloc (w : World) (o : Obj) : Below w.heap.size w (w.alloc o) := (Below.refl _ w).alloc (Nat.le_refl _) o
theorem heap_below {w w' : World} {b : Nat} {o : Obj} (h : w.heap[b]? = some o) (hb : Below w.heap.size w w') : w'.heap[b]? = some o := by
  have hlt : b < w.heap.size := by
    rcases Nat.lt_or_ge b w.heap.size with h' | h'
    · exact h'
    · rw [Array.getElem?_eq_none h'] at h; simp at h
  rw [hb.block b hlt]; exact h
theorem grow_below (w : World) (os : Array Obj) (k : Nat) : Below w.heap.size w (Sort.grow (w.drewN k) os) := by
  refine ⟨rfl, rfl, rfl, ?_, fun i hi => ?_⟩
  · simp [Sort.grow]
  · simp only [Sort.grow]
    rw [Array.getElem?_append_left (by simpa using hi)]
    rfl
end Go.Proofs.YtmmaniolaljjlaaGreatDoor
/- strconv.FormatUint at base 10: over the shelf's contracts. -/
namespace Go.Proofs.YtmmaniolaljjlaaGreatDoor
open Go.RowKit Go.Shelf Go.Sort Go.Lib
set_option linter.unusedVariables false

theorem holds_zero0 (w : World) (T : TypeId) (nd : Nat) (hs : nd ≤ 24) : Holds (fun (b : UInt8) => Value.int .u8 (b.toNat : Int)) (w.alloc (.cells Lib.zeros24 T)) w.heap.size 0 (Array.replicate nd (0 : UInt8)) := fun j hj => by
  have hj' : j < nd := by simpa using hj
  refine ⟨?_, World.frozen?_alloc_new _ _ _ _⟩
  rw [World.cell?_alloc_new, Lib.zeros24_at _ (by omega), getElem!_pos _ j hj]
  simp

theorem fin_pos0 (w : World) (o : Obj) (dk : Array UInt8) (k : Nat) : ∃ os, (putRow (fun (b : UInt8) => Value.int .u8 (b.toNat : Int)) (w.alloc o) w.heap.size 0 dk).drewN k = grow (w.drewN k) os := by
  rw [alloc_eq_grow]
  obtain ⟨os', _, e⟩ := putRow_grow_new (fun (b : UInt8) => Value.int .u8 (b.toNat : Int)) w #[o] w.heap.size 0 dk (Nat.le_refl _)
  exact ⟨os', by rw [e]; rfl⟩

set_option maxHeartbeats 6400000 in
set_option maxRecDepth 100000 in
theorem fmtI (u : Nat) (hu64 : u < 18446744073709551616) (w : World) (htab : Lib.TabIs Tryz.prog w "internal/strconv.uint64pow10" .u64 Lib.pow10Tab) :
    Calls Tryz.prog 96 #[.int .u64 u, .int .i64 10] w fun e w' => e = .returned (.string ⟨(Lib.decDigits u).toArray⟩) ∧ Below w.heap.size w w' := by
  by_cases hs : u < 100
  · go_enter Tryz.func96, Tryz.ntmps96
    go_wp2_with (go_at_call 113; refine (Any.internal_strconv_small Tryz.lays283 u hs _).mono ?_; rintro e w' ⟨rfl, rfl⟩)
    go_ret
    exact ⟨rfl, Below.refl _ _⟩
  · have hu1 : 1 ≤ u := by omega
    have hnd20 : Lib.nDigits u ≤ 20 := by have := Lib.numDigits_eq u hu1 hu64; split at this <;> omega
    have hal : Tryz.prog.arrayLen 179 = 24 := by kernel_rfl
    have hsl1 : ∀ W, (Instr.sliceAt 179 (.pointer (some ⟨w.heap.size, 0, none⟩)) none (some (.int .i64 (Lib.nDigits u : Int))) none).run Tryz.prog W = .ok (.slice (some ⟨w.heap.size, 0, none⟩) (Lib.nDigits u) 24) W := fun W => by
      rw [run_sliceAt_array_h W 179 ⟨w.heap.size, 0, none⟩ (by kernel_rfl) .i64 (Lib.nDigits u : Int) (by omega) (by rw [hal]; omega)]
      go_simp
    have hH0 := holds_zero0 w 179 (Lib.nDigits u) (by omega)
    have hfmt := Any.internal_strconv_formatBase10 Tryz.lays285 w.heap.size 0 24 u (Array.replicate (Lib.nDigits u) 0) (w.alloc (.cells Lib.zeros24 179)) hH0 (by rw [Array.size_replicate]; exact Lib.lt_pow_nDigits u) hu64 (by rw [Array.size_replicate]; omega)
    rw [Array.size_replicate] at hfmt
    have HH0 := keepH hH0
    clear hH0 hal
    have hnu := Any.internal_strconv_numDigits Tryz.lays284 u hu1 hu64 (w.alloc (.cells Lib.zeros24 179)) (Lib.tabIs_alloc htab _)
    go_enter Tryz.func96, Tryz.ntmps96
    go_wp2_with (first
      | (go_at_call 114; refine hnu.mono ?_; rintro e w' ⟨rfl, rfl⟩))
    go_at_call 115
    refine hfmt.mono ?_
    rintro e w' ⟨rfl, k, v', dk, rfl, hF⟩
    have hcv : (convert 77 9 (.slice (some ⟨w.heap.size, 0, none⟩) (Lib.nDigits u) 24)).run Tryz.prog ((putRow (fun (b : UInt8) => Value.int .u8 (b.toNat : Int)) (w.alloc (.cells Lib.zeros24 179)) w.heap.size 0 dk).drewN k) = .ok (.string ⟨(Lib.decDigits u).toArray⟩) ((putRow (fun (b : UInt8) => Value.int .u8 (b.toNat : Int)) (w.alloc (.cells Lib.zeros24 179)) w.heap.size 0 dk).drewN k) := by
      have h := run_convert_bytes_back (P := Tryz.prog) ((putRow (fun (b : UInt8) => Value.int .u8 (b.toNat : Int)) (w.alloc (.cells Lib.zeros24 179)) w.heap.size 0 dk).drewN k) 77 9 5 ⟨w.heap.size, 0, none⟩ 24 (Lib.decDigits u) Tryz.underlying77 Tryz.underlying5 Tryz.underlying9 (fun j hj => by
        rw [Lib.row_is_numeral hF j hj, Lib.add_plain, World.cell?_drewN]
        exact cell?_putRow (fun (b : UInt8) => Value.int .u8 (b.toNat : Int)) _ w.heap.size 0 _ dk HH0.out (by rw [hF.size, Array.size_replicate]) j (by rw [hF.size]; rw [Lib.decDigits_length] at hj; exact hj))
      rw [Lib.decDigits_length] at h
      exact h
    go_wp2
    go_ret
    obtain ⟨os, eo⟩ := fin_pos0 w (.cells Lib.zeros24 179) dk k
    refine ⟨rfl, ?_⟩
    rw [eo]
    exact grow_below _ _ _

theorem fmtU (u : Nat) (hu64 : u < 18446744073709551616) (w : World) (htab : Lib.TabIs Tryz.prog w "internal/strconv.uint64pow10" .u64 Lib.pow10Tab) :
    Calls Tryz.prog 73 #[.int .u64 u, .int .i64 10] w fun e w' => e = .returned (.string ⟨(Lib.decDigits u).toArray⟩) ∧ Below w.heap.size w w' := by
  go_enter Tryz.func73, Tryz.ntmps73
  go_wp2_with fail
  refine (fmtI u hu64 w htab).mono ?_
  rintro e w1 ⟨rfl, hb⟩
  go_wp2
  go_ret
  exact ⟨rfl, hb⟩
end Go.Proofs.YtmmaniolaljjlaaGreatDoor
/- Numbers as texts, by the program; a text cut at a line's end, at blanks, and joined. -/
namespace Go.Proofs.YtmmaniolaljjlaaGreatDoor
open Go.RowKit Go.Shelf
set_option linter.unusedVariables false

structure Tb (w : World) : Prop where
  tab : Lib.TabIs Tryz.prog w "internal/strconv.uint64pow10" .u64 Lib.pow10Tab
  es : ∃ tp p, w.var? Tryz.prog "strconv.ErrSyntax" = some #[.iface tp p]
  er : ∃ tp p, w.var? Tryz.prog "strconv.ErrRange" = some #[.iface tp p]
  ml : ∃ m, w.cell? ⟨Tryz.lays146_ren.g 1, 0, none⟩ = some (.int .i64 m)
theorem Tb.on {w w' : World} (h : Tb w) (hb : Below w.heap.size w w') : Tb w' := by
  obtain ⟨h1, ⟨a, b, h2⟩, ⟨c, d, h3⟩, ⟨m, h4⟩⟩ := h
  exact ⟨var_below h1 hb, ⟨a, b, var_below h2 hb⟩, ⟨c, d, var_below h3 hb⟩, ⟨m, cell_below h4 hb⟩⟩
theorem itoa_any (n : Int) (h0 : -9223372036854775808 ≤ n) (h1 : n < 9223372036854775808) (w : World) (T : Tb w) :
    Calls Tryz.prog 29 #[.int .i64 n] w fun e w' => e = .returned (.string (mkS (Lib.itoa n))) ∧ Below w.heap.size w w' := by
  refine (Any.strconv_Itoa Tryz.lays171 n h0 (by omega) w T.tab).mono ?_
  rintro e w' ⟨rfl, k, os, rfl⟩
  exact ⟨rfl, grow_below _ _ _⟩
set_option maxRecDepth 100000 in
theorem dec_any (u : Nat) (h : isU u) (w : World) (T : Tb w) :
    Calls Tryz.prog 36 #[.int .u64 (u : Int)] w fun e w' => e = .returned (.string (mkS (Lib.decDigits u))) ∧ Below w.heap.size w w' := by
  have hf := fmtU u h w T.tab
  go_enter Tryz.func36, Tryz.ntmps36
  go_wp2_with fail
  refine hf.mono ?_
  rintro e w1 ⟨rfl, hb⟩
  go_wp2
  go_ret
  exact ⟨rfl, hb⟩
theorem atoi_ok (f : List UInt8) (hf : f.length ≤ 200000000) (v : Int) (h : Lib.atoiAll f = .ok v) (w : World) :
    Calls Tryz.prog 81 #[.string (mkS f)] w fun e w' => e = .returned (.tuple #[.int .i64 v, .nilIface]) ∧ Below w.heap.size w w' := by
  refine (Any.strconv_Atoi_ok Tryz.lays172 (mkS f) (by rw [mkS_size]; omega) v (by simpa using h) w).mono ?_
  rintro e w' ⟨rfl, hw⟩
  refine ⟨rfl, ?_⟩
  rcases hw with rfl | ⟨t, rfl⟩
  · exact Below.refl _ _
  · exact Lib.bytesWorld_below _ _ _
theorem atoi_no (f : List UInt8) (hf : f.length ≤ 200000000) (h : ∀ v, Lib.atoiAll f ≠ .ok v) (w : World) (T : Tb w) :
    Calls Tryz.prog 81 #[.string (mkS f)] w fun e w' => (∃ (x : Int) (t : TypeId) (p : Value), e = .returned (.tuple #[.int .i64 x, .iface t p])) ∧ Below w.heap.size w w' := by
  cases hp : Lib.atoiAll f with
  | ok u => exact absurd hp (h u)
  | «syntax» =>
    obtain ⟨a, b, h2⟩ := T.es
    refine (Any.strconv_Atoi_syntax_var Tryz.lays172 (mkS f) (by rw [mkS_size]; omega) (by simpa using hp) a b w h2).mono ?_
    rintro e w' ⟨N, rfl, -, -, hb⟩
    exact ⟨⟨0, _, _, rfl⟩, hb⟩
  | range =>
    obtain ⟨a, b, h2⟩ := T.er
    refine (Any.strconv_Atoi_range_var Tryz.lays172 (mkS f) (by rw [mkS_size]; omega) (by simpa using hp) a b w h2).mono ?_
    rintro e w' ⟨N, rfl, -, -, hb⟩
    exact ⟨⟨_, _, _, rfl⟩, hb⟩
theorem pu_ok (l : List UInt8) (hl : l.length ≤ 200000000) (u : Nat) (h : Lib.parseMag l = .ok u) (w : World) :
    Calls Tryz.prog 101 #[.string (mkS l), .int .i64 10, .int .i64 64] w fun e w' => e = .returned (.tuple #[.int .u64 u, .nilIface]) ∧ Below w.heap.size w w' := by
  refine (Any.strconv_ParseUint_10_at64_ok Tryz.laysPu (mkS l) (by rw [mkS_size]; omega) u (by rw [← pu_mag] at h; simpa using h) w).mono ?_
  rintro e w' ⟨rfl, hw⟩
  refine ⟨rfl, ?_⟩
  rcases hw with rfl | rfl
  · exact Below.refl _ _
  · exact Lib.bytesWorld_below _ _ _
theorem pu_no (l : List UInt8) (hl : l.length ≤ 200000000) (h : ∀ u, Lib.parseMag l ≠ .ok u) (w : World) (T : Tb w) :
    Calls Tryz.prog 101 #[.string (mkS l), .int .i64 10, .int .i64 64] w fun e w' => (∃ (u : Nat) (t : TypeId) (p : Value), isU u ∧ e = .returned (.tuple #[.int .u64 u, .iface t p])) ∧ Below w.heap.size w w' := by
  cases hp : Lib.parseMag l with
  | ok u => exact absurd hp (h u)
  | «syntax» =>
    obtain ⟨a, b, h2⟩ := T.es
    refine (Any.strconv_ParseUint_10_at64_syntax_var Tryz.laysPu (mkS l) (by rw [mkS_size]; omega) (by rw [← pu_mag] at hp; simpa using hp) a b w h2).mono ?_
    rintro e w' ⟨N, rfl, -, -, hb⟩
    exact ⟨⟨0, _, _, okU0, rfl⟩, hb⟩
  | range =>
    obtain ⟨a, b, h2⟩ := T.er
    refine (Any.strconv_ParseUint_10_at64_range_var Tryz.laysPu (mkS l) (by rw [mkS_size]; omega) (by rw [← pu_mag] at hp; simpa using hp) a b w h2).mono ?_
    rintro e w' ⟨N, rfl, -, -, hb⟩
    exact ⟨⟨18446744073709551615, _, _, by unfold isU; omega, rfl⟩, hb⟩

/-- natural: a number, and whether the text is the one in which it is written -/
def natV (f : List UInt8) (v : Value) : Prop := (∃ u : Nat, natP f = some u ∧ v = .tuple #[.int .u64 (u : Int), .bool true]) ∨ (natP f = none ∧ ∃ u : Nat, v = .tuple #[.int .u64 (u : Int), .bool false])
set_option maxRecDepth 100000 in
theorem natural_any (f : List UInt8) (hf : f.length ≤ 200000000) (w : World) (T : Tb w) :
    Calls Tryz.prog 78 #[.string (mkS f)] w fun e w' => ∃ v, e = .returned v ∧ natV f v ∧ Below w.heap.size w w' := by
  by_cases hp : ∃ u, Lib.parseMag f = .ok u
  · obtain ⟨u, hp⟩ := hp
    have hu : isU u := Lib.parseMag_lt hp
    have h1 := pu_ok f hf u hp w
    have h2 := fun w1 (hb : Below w.heap.size w w1) => dec_any u hu w1 (T.on hb)
    have q : ((mkS (Lib.decDigits u)).toList == (mkS f).toList) = decide (Lib.decDigits u = f) := beq_mkS _ _
    obtain ⟨s, hs⟩ : ∃ s, s = mkS f := ⟨_, rfl⟩
    obtain ⟨s2, hs2⟩ : ∃ s, s = mkS (Lib.decDigits u) := ⟨_, rfl⟩
    obtain ⟨d, hd⟩ : ∃ d, d = decide (Lib.decDigits u = f) := ⟨_, rfl⟩
    rw [← hs, ← hs2, ← hd] at q
    rw [← hs] at h1 ⊢
    rw [← hs2] at h2
    have H2 := keepH h2
    have HD : Hid (d = decide (Lib.decDigits u = f)) := keepH hd
    have HP := keepH hp
    clear hs hs2 hd h2 hp T hu
    cases d
    · go_enter Tryz.func78, Tryz.ntmps78
      go_wp2_with fail
      refine h1.mono ?_
      rintro e w1 ⟨rfl, hb⟩
      have h2 := H2.out w1 hb
      go_wp2_with fail
      refine h2.mono ?_
      rintro e w2 ⟨rfl, hb2⟩
      go_wp2_with fail
      go_ret2
      exact ⟨_, rfl, Or.inr ⟨by unfold natP; rw [HP.out]; simp only; rw [if_neg (of_decide_eq_false HD.out.symm)], u, rfl⟩, below_chain hb hb2⟩
    · go_enter Tryz.func78, Tryz.ntmps78
      go_wp2_with fail
      refine h1.mono ?_
      rintro e w1 ⟨rfl, hb⟩
      have h2 := H2.out w1 hb
      go_wp2_with fail
      refine h2.mono ?_
      rintro e w2 ⟨rfl, hb2⟩
      go_wp2_with fail
      go_ret2
      exact ⟨_, rfl, Or.inl ⟨u, by unfold natP; rw [HP.out]; simp only; rw [if_pos (of_decide_eq_true HD.out.symm)], rfl⟩, below_chain hb hb2⟩
  · have h1 := pu_no f hf (fun u e => hp ⟨u, e⟩) w T
    have hnone : Hid (natP f = none) := keepH (by
      unfold natP
      split
      · rename_i u hu
        exact absurd ⟨u, hu⟩ hp
      · rfl)
    obtain ⟨s, hs⟩ : ∃ s, s = mkS f := ⟨_, rfl⟩
    rw [← hs] at h1 ⊢
    clear hs hp T
    go_enter Tryz.func78, Tryz.ntmps78
    go_wp2_with fail
    refine h1.mono ?_
    rintro e w1 ⟨⟨u, t, p, _, rfl⟩, hb⟩
    go_wp2_with fail
    go_ret2
    exact ⟨_, rfl, Or.inr ⟨hnone.out, u, rfl⟩, hb⟩
def intV (f : List UInt8) (v : Value) : Prop := (∃ u : Int, intP f = some u ∧ v = .tuple #[.int .i64 u, .bool true]) ∨ (intP f = none ∧ ∃ u : Int, v = .tuple #[.int .i64 u, .bool false])
set_option maxRecDepth 100000 in
theorem integer_any (f : List UInt8) (hf : f.length ≤ 200000000) (w : World) (T : Tb w) :
    Calls Tryz.prog 100 #[.string (mkS f)] w fun e w' => ∃ v, e = .returned v ∧ intV f v ∧ Below w.heap.size w w' := by
  by_cases hp : ∃ u, Lib.atoiAll f = .ok u
  · obtain ⟨u, hp⟩ := hp
    have hu := atoi_range hp
    have h1 := atoi_ok f hf u hp w
    have h2 := fun w1 (hb : Below w.heap.size w w1) => itoa_any u hu.1 hu.2 w1 (T.on hb)
    have q : ((mkS (Lib.itoa u)).toList == (mkS f).toList) = decide (Lib.itoa u = f) := beq_mkS _ _
    obtain ⟨s, hs⟩ : ∃ s, s = mkS f := ⟨_, rfl⟩
    obtain ⟨s2, hs2⟩ : ∃ s, s = mkS (Lib.itoa u) := ⟨_, rfl⟩
    obtain ⟨d, hd⟩ : ∃ d, d = decide (Lib.itoa u = f) := ⟨_, rfl⟩
    rw [← hs, ← hs2, ← hd] at q
    rw [← hs] at h1 ⊢
    rw [← hs2] at h2
    have H2 := keepH h2
    have HD : Hid (d = decide (Lib.itoa u = f)) := keepH hd
    have HP := keepH hp
    clear hs hs2 hd h2 hp T hu
    cases d
    · go_enter Tryz.func100, Tryz.ntmps100
      go_wp2_with fail
      refine h1.mono ?_
      rintro e w1 ⟨rfl, hb⟩
      have h2 := H2.out w1 hb
      go_wp2_with fail
      refine h2.mono ?_
      rintro e w2 ⟨rfl, hb2⟩
      go_wp2_with fail
      go_ret2
      exact ⟨_, rfl, Or.inr ⟨by unfold intP; rw [HP.out]; simp only; rw [if_neg (of_decide_eq_false HD.out.symm)], u, rfl⟩, below_chain hb hb2⟩
    · go_enter Tryz.func100, Tryz.ntmps100
      go_wp2_with fail
      refine h1.mono ?_
      rintro e w1 ⟨rfl, hb⟩
      have h2 := H2.out w1 hb
      go_wp2_with fail
      refine h2.mono ?_
      rintro e w2 ⟨rfl, hb2⟩
      go_wp2_with fail
      go_ret2
      exact ⟨_, rfl, Or.inl ⟨u, by unfold intP; rw [HP.out]; simp only; rw [if_pos (of_decide_eq_true HD.out.symm)], rfl⟩, below_chain hb hb2⟩
  · have h1 := atoi_no f hf (fun u e => hp ⟨u, e⟩) w T
    have hnone : Hid (intP f = none) := keepH (by
      unfold intP
      split
      · rename_i u hu
        exact absurd ⟨u, hu⟩ hp
      · rfl)
    obtain ⟨s, hs⟩ : ∃ s, s = mkS f := ⟨_, rfl⟩
    rw [← hs] at h1 ⊢
    clear hs hp T
    go_enter Tryz.func100, Tryz.ntmps100
    go_wp2_with fail
    refine h1.mono ?_
    rintro e w1 ⟨⟨u, t, p, rfl⟩, hb⟩
    go_wp2_with fail
    go_ret2
    exact ⟨_, rfl, Or.inr ⟨hnone.out, u, rfl⟩, hb⟩

theorem split_any (t : List UInt8) (ht : t.length ≤ 200000000) (w : World) (T : Tb w) :
    Calls Tryz.prog 74 #[.string (mkS t), .string ⟨#[32]⟩] w fun e w' => e = .returned (.slice (some ⟨w.heap.size, 0, none⟩) (Lib.split t [32]).length (Lib.split t [32]).length) ∧
      w' = w.alloc (.cells ((Lib.split t [32]).map (fun f => Value.string (mkS f))).toArray 9) := by
  obtain ⟨m, hm⟩ := T.ml
  refine (Any.strings_Split ({ Tryz.lays146 with } : Lays.n146 Tryz.prog Tryz.lays146_ren) (by kernel_rfl) (mkS t) ⟨#[32]⟩ m w (by rw [mkS_size]; omega) hm (by decide)).mono ?_
  rintro e w' ⟨rfl, rfl⟩
  have hl := Lib.splitB_all ⟨#[32]⟩ (by decide) 0 _ (mkS t) rfl
  have hd := Lib.splitB_data ⟨#[32]⟩ 0 (Lib.countB (mkS t) ⟨#[32]⟩) (mkS t)
  have hs : (Lib.splitB ⟨#[32]⟩ 0 (Lib.countB (mkS t) ⟨#[32]⟩) (mkS t)).map (·.data.toList) = Lib.split t [32] := hd
  have h2 : (Lib.split t [32]).length = Lib.countB (mkS t) ⟨#[32]⟩ + 1 := by rw [← hs, List.length_map, hl]
  rw [h2]
  refine ⟨rfl, ?_⟩
  congr 2
  rw [← hs, List.map_map]
  congr 1
theorem bXj : Builder.Extra Tryz.prog Tryz.lays156_ren where
  sizeBuilder := by kernel_rfl
  liesBuilder := by kernel_rfl
  t5 := Tryz.underlying5
  a5 := Tryz.isAgg5
  z5 := Tryz.sizeOf5
  v5 := Tryz.zeroValue5
  infoByte := by kernel_rfl
  cellsByte := by kernel_rfl
  sizeByte := by kernel_rfl
  neB5 := by decide
theorem join_any (bk c : Nat) (fs : List (List UInt8)) (w : World) (hcells : ∀ (j : Nat) f, fs[j]? = some f → w.cell? ⟨bk, j, none⟩ = some (.string (mkS f))) (hbk : bk < w.heap.size) (hN : fs.length ≤ 140737488355328) (hcap : fs.length ≤ c) (hlen : (Lib.join fs [32]).length ≤ 140737488355328) :
    Calls Tryz.prog 40 #[.slice (some ⟨bk, 0, none⟩) fs.length c, .string ⟨#[32]⟩] w fun e w' => e = .returned (.string (mkS (Lib.join fs [32]))) ∧ Below w.heap.size w w' := by
  have e1 : (fs.map mkS).map (·.data.toList) = fs := by rw [List.map_map]; simp [Function.comp_def]
  have h := Any.strings_Join Tryz.lays156 bXj bk 0 c (fs.map mkS) ⟨#[32]⟩ w (fun j x hx => by
    rw [List.getElem?_map] at hx
    obtain ⟨f, hf, rfl⟩ := Option.map_eq_some_iff.mp hx
    rw [Nat.zero_add]
    exact hcells j f hf) hbk (by simpa using hN) (by simpa using hcap) (by rw [e1]; exact hlen)
  rw [e1, List.length_map] at h
  exact h

theorem cutI_none (l : List UInt8) (hn : noB 10 l) (w : World) :
    Calls Tryz.prog 91 #[.string (mkS l), .string ⟨#[10]⟩] w fun e w' => e = .returned (.tuple #[.string (mkS l), .string (mkS []), .bool false]) ∧ Below w.heap.size w w' := by
  have hix := Any.stringslite_Index_one Tryz.lays219 (mkS l) 10 w
  rw [show Lib.indexByte (mkS l).data.toList 10 = -1 from ix_none hn] at hix
  go_enter Tryz.func91, Tryz.ntmps91
  go_wp2_with (go_at_call 112; refine hix.mono ?_; rintro e w' ⟨rfl, rfl⟩)
  go_ret3
  exact ⟨rfl, Below.refl _ _⟩
theorem cut_none (l : List UInt8) (hn : noB 10 l) (w : World) :
    Calls Tryz.prog 53 #[.string (mkS l), .string ⟨#[10]⟩] w fun e w' => e = .returned (.tuple #[.string (mkS l), .string (mkS []), .bool false]) ∧ Below w.heap.size w w' := by
  have h := cutI_none l hn w
  go_enter Tryz.func53, Tryz.ntmps53
  go_wp2_with fail
  refine h.mono ?_
  rintro e w1 ⟨rfl, hb⟩
  go_wp2
  go_ret3
  exact ⟨rfl, hb⟩
end Go.Proofs.YtmmaniolaljjlaaGreatDoor
/- The kinds' words, and which fields an operation of each kind has: what is pure; the vocabulary of the program. -/
namespace Go.Proofs.YtmmaniolaljjlaaGreatDoor
open Go.RowKit Go.Shelf
set_option linter.unusedVariables false

def opWs : List (List UInt8) := [[], [103, 101, 116], [112, 117, 116], [100, 101, 108, 101, 116, 101], [115, 119, 97, 112], [115, 110, 97, 112, 115, 104, 111, 116], [114, 101, 108, 101, 97, 115, 101], [109, 117, 108, 116, 105, 103, 101, 116], [114, 97, 110, 103, 101], [99, 111, 117, 110, 116], [99, 111, 108, 108, 101, 99, 116]]
def opW (k : Nat) : List UInt8 := opWs.getD k []
def hasK (k : Nat) : Bool := decide (1 ≤ k ∧ k ≤ 10)
def hndK (k : Nat) : Bool := decide (6 ≤ k ∧ k ≤ 9)
def kysK (k : Nat) : Bool := decide (k = 7)
def numK : Nat → List Nat
  | 1 => [1] | 2 => [1, 2] | 3 => [1] | 4 => [1, 3, 2] | 8 => [9, 10] | 9 => [9, 10] | _ => []
/-- the package-level table of words -/
def Wd (w : World) : Prop := w.var? Tryz.prog "shutter/script.words" = some (opWs.map fun s => Value.string (mkS s)).toArray
theorem Wd.on {w w' : World} (h : Wd w) (hb : Below w.heap.size w w') : Wd w' := var_below h hb
theorem gWd : Tryz.prog.globalNamed "shutter/script.words" = some 0 := by kernel_rfl
theorem Wd.cell {w : World} (h : Wd w) (k : Nat) (hk : k < 11) : w.cell? ⟨0, k, none⟩ = some (.string (mkS (opW k))) := by
  have := World.var?_cell gWd h k
  rw [this]
  have e : (opWs.map fun s => Value.string (mkS s)).toArray[k]? = some (.string (mkS (opW k))) := by
    have : opWs.length = 11 := rfl
    simp [opW, List.getD, show k < opWs.length by omega]
  exact e
set_option maxRecDepth 100000 in
theorem word_any (k : Nat) (hk : k < 256) (W : World) (h : Wd W) :
    Calls Tryz.prog 69 #[.int .u8 (k : Int)] W fun e W' => e = .returned (.string (mkS (opW k))) ∧ W' = W := by
  by_cases h11 : k < 11
  · have c0 := h.cell k h11
    have t1 : ¬ ((k : Int) ≥ 11) := by omega
    have t0 : (0 : Int) ≤ (k : Int) := by omega
    have t2 : (k : Int) < 11 := by omega
    obtain ⟨s, hs⟩ : ∃ s, s = mkS (opW k) := ⟨_, rfl⟩
    rw [← hs] at c0 ⊢
    clear hs h
    go_enter Tryz.func69, Tryz.ntmps69
    go_wp2_with fail
    go_ret
    exact ⟨by simp, rfl⟩
  · have t1 : ((k : Int) ≥ 11) := by omega
    have e : opW k = [] := by
      unfold opW
      rw [List.getD, List.getElem?_eq_none (by show 11 ≤ k; omega)]
      rfl
    rw [e]
    clear h e
    go_enter Tryz.func69, Tryz.ntmps69
    go_wp2_with fail
    go_ret
    exact ⟨by simp, rfl⟩
def fnK : Nat → Value
  | 1 => .func (.func 59) #[] #[] | 2 => .func (.func 61) #[] #[] | 3 => .func (.func 59) #[] #[] | 4 => .func (.func 62) #[] #[] | 5 => .func (.func 58) #[] #[] | 6 => .func (.func 63) #[] #[] | 7 => .func (.func 64) #[] #[] | 8 => .func (.func 60) #[] #[] | 9 => .func (.func 60) #[] #[] | 10 => .func (.func 58) #[] #[] | _ => .nilFunc
def vocN : Nat → Array MapEntry
  | 0 => #[]
  | n + 1 => (vocN n).push ⟨.string (mkS (opW (n + 1))), fnK (n + 1), n⟩
def IsVoc (W : World) (b : Nat) : Prop := W.heap[b]? = some (.map (vocN 10) 10)
theorem IsVoc.on {W X : World} {b : Nat} (h : IsVoc W b) (hb : Below W.heap.size W X) : IsVoc X b := (hb.block b (Array.getElem?_eq_some_iff.1 h).1).trans h
theorem run_find_s {w : World} {k : Value} {l : List MapEntry} {a : Option (Nat × Value)} (h : Instr.findNow .string k l 0 = some a) : (Instr.findKey 9 k l).run Tryz.prog w = .ok a w := MapKept.run_findKey Tryz.underlying9 h
theorem ck_s (k : ByteArray) (em : Bool) (w : World) : (Instr.checkKey em 10000 9 (.string k)).run Tryz.prog w = .ok () w := by kernel_rfl
theorem voc_put {w : World} {b n : Nat} (hb : w.heap[b]? = some (.map (vocN n) n)) (hf : Instr.findNow .string (.string (mkS (opW (n + 1)))) (vocN n).toList 0 = some none) :
    ∃ w', (Instr.mapUpdate 57 (.map (some b)) (.string (mkS (opW (n + 1)))) (fnK (n + 1))).run Tryz.prog w = .ok () w' ∧ w'.heap[b]? = some (.map (vocN (n + 1)) (n + 1)) ∧ (∀ B, B ≤ b → Below B w w') := by
  refine ⟨ChangeMaps.setBlock w b (.map (vocN (n + 1)) (n + 1)), ?_, ?_, fun B hB => ?_⟩
  · simp [Instr.mapUpdate, run_underlying Tryz.underlying57, MapKept.run_getObj_map hb, ck_s, run_find_s hf, MapKept.run_setObj_map _ hb, Result.andThen, ChangeMaps.setBlock, vocN]
  · show (w.heap.setIfInBounds b _)[b]? = some _
    rw [Array.getElem?_setIfInBounds_self_of_lt (Array.getElem?_eq_some_iff.1 hb).1]
  · exact ⟨rfl, rfl, rfl, by simp [ChangeMaps.setBlock], fun k hk => by
      show (w.heap.setIfInBounds b _)[k]? = w.heap[k]?
      rw [Array.getElem?_setIfInBounds_ne (by omega)]⟩
theorem voc_find : ∀ (n : Nat), n < 10 → Instr.findNow .string (.string (mkS (opW (n + 1)))) (vocN n).toList 0 = some none
  | 0, _ => rfl | 1, _ => rfl | 2, _ => rfl | 3, _ => rfl | 4, _ => rfl | 5, _ => rfl | 6, _ => rfl | 7, _ => rfl | 8, _ => rfl | 9, _ => rfl
  | n + 10, h => by omega
theorem voc_found : ∀ (n : Nat), n < 10 → Instr.findNow .string (.string (mkS (opW (n + 1)))) (vocN 10).toList 0 = some (some (n, fnK (n + 1)))
  | 0, _ => rfl | 1, _ => rfl | 2, _ => rfl | 3, _ => rfl | 4, _ => rfl | 5, _ => rfl | 6, _ => rfl | 7, _ => rfl | 8, _ => rfl | 9, _ => rfl
  | n + 10, h => by omega
theorem voc_none : Instr.findNow .string (.string (mkS [])) (vocN 10).toList 0 = some none := rfl
theorem voc_look {W : World} {b : Nat} (h : IsVoc W b) (k : Nat) : (Instr.lookup 57 (.map (some b)) (.string (mkS (opW k))) true).run Tryz.prog W = .ok (.tuple #[fnK k, .bool (hasK k)]) W := by
  have hz : (zeroValue 114).run Tryz.prog W = .ok .nilFunc W := by kernel_rfl
  by_cases hk : 1 ≤ k ∧ k ≤ 10
  · have hf : Instr.findNow .string (.string (mkS (opW k))) (vocN 10).toList 0 = some (some (k - 1, fnK k)) := by
      obtain ⟨n, rfl⟩ : ∃ n, k = n + 1 := ⟨k - 1, by omega⟩
      exact voc_found n (by omega)
    simp [Instr.lookup, run_underlying Tryz.underlying57, MapKept.run_getObj_map h, ck_s, run_find_s hf, Result.andThen, hasK, hk]
  · have e : opW k = [] := by
      rcases Nat.lt_or_ge k 1 with h0 | h0
      · obtain rfl : k = 0 := by omega
        rfl
      · unfold opW
        rw [List.getD, List.getElem?_eq_none (by show 11 ≤ k; omega)]
        rfl
    have ef : fnK k = .nilFunc := by
      unfold fnK
      split <;> first | rfl | (exfalso; omega)
    have hf : Instr.findNow .string (.string (mkS (opW k))) (vocN 10).toList 0 = some none := by rw [e]; exact voc_none
    simp [Instr.lookup, run_underlying Tryz.underlying57, MapKept.run_getObj_map h, ck_s, run_find_s hf, Result.andThen, hasK, hk, hz, ef]
end Go.Proofs.YtmmaniolaljjlaaGreatDoor
/- The vocabulary that the program makes; the fields of an operation of each kind. (mkScb.py) -/
namespace Go.Proofs.YtmmaniolaljjlaaGreatDoor
open Go.RowKit Go.Shelf
set_option linter.unusedVariables false

set_option maxRecDepth 100000 in
set_option maxHeartbeats 2000000 in
theorem voc_new (W : World) : Calls Tryz.prog 23 #[] W fun e W' => e = .returned (.map (some W.heap.size)) ∧ IsVoc W' W.heap.size ∧ Below W.heap.size W W' := by
  have h0 : (W.alloc (.map #[] 0)).heap[W.heap.size]? = some (.map (vocN 0) 0) := heap_alloc_new _ _
  have b0 : Below W.heap.size W (W.alloc (.map #[] 0)) := below_alloc _ _
  obtain ⟨w1, q1, h1, b1'⟩ := voc_put h0 (voc_find 0 (by omega))
  have p1 : (Instr.mapUpdate 57 (.map (some W.heap.size)) (.string ⟨#[103, 101, 116]⟩) (.func (.func 59) #[] #[])).run Tryz.prog (W.alloc (.map #[] 0)) = .ok () w1 := q1
  have b1 := b0.trans (b1' W.heap.size (Nat.le_refl _))
  obtain ⟨w2, q2, h2, b2'⟩ := voc_put h1 (voc_find 1 (by omega))
  have p2 : (Instr.mapUpdate 57 (.map (some W.heap.size)) (.string ⟨#[112, 117, 116]⟩) (.func (.func 61) #[] #[])).run Tryz.prog w1 = .ok () w2 := q2
  have b2 := b1.trans (b2' W.heap.size (Nat.le_refl _))
  obtain ⟨w3, q3, h3, b3'⟩ := voc_put h2 (voc_find 2 (by omega))
  have p3 : (Instr.mapUpdate 57 (.map (some W.heap.size)) (.string ⟨#[100, 101, 108, 101, 116, 101]⟩) (.func (.func 59) #[] #[])).run Tryz.prog w2 = .ok () w3 := q3
  have b3 := b2.trans (b3' W.heap.size (Nat.le_refl _))
  obtain ⟨w4, q4, h4, b4'⟩ := voc_put h3 (voc_find 3 (by omega))
  have p4 : (Instr.mapUpdate 57 (.map (some W.heap.size)) (.string ⟨#[115, 119, 97, 112]⟩) (.func (.func 62) #[] #[])).run Tryz.prog w3 = .ok () w4 := q4
  have b4 := b3.trans (b4' W.heap.size (Nat.le_refl _))
  obtain ⟨w5, q5, h5, b5'⟩ := voc_put h4 (voc_find 4 (by omega))
  have p5 : (Instr.mapUpdate 57 (.map (some W.heap.size)) (.string ⟨#[115, 110, 97, 112, 115, 104, 111, 116]⟩) (.func (.func 58) #[] #[])).run Tryz.prog w4 = .ok () w5 := q5
  have b5 := b4.trans (b5' W.heap.size (Nat.le_refl _))
  obtain ⟨w6, q6, h6, b6'⟩ := voc_put h5 (voc_find 5 (by omega))
  have p6 : (Instr.mapUpdate 57 (.map (some W.heap.size)) (.string ⟨#[114, 101, 108, 101, 97, 115, 101]⟩) (.func (.func 63) #[] #[])).run Tryz.prog w5 = .ok () w6 := q6
  have b6 := b5.trans (b6' W.heap.size (Nat.le_refl _))
  obtain ⟨w7, q7, h7, b7'⟩ := voc_put h6 (voc_find 6 (by omega))
  have p7 : (Instr.mapUpdate 57 (.map (some W.heap.size)) (.string ⟨#[109, 117, 108, 116, 105, 103, 101, 116]⟩) (.func (.func 64) #[] #[])).run Tryz.prog w6 = .ok () w7 := q7
  have b7 := b6.trans (b7' W.heap.size (Nat.le_refl _))
  obtain ⟨w8, q8, h8, b8'⟩ := voc_put h7 (voc_find 7 (by omega))
  have p8 : (Instr.mapUpdate 57 (.map (some W.heap.size)) (.string ⟨#[114, 97, 110, 103, 101]⟩) (.func (.func 60) #[] #[])).run Tryz.prog w7 = .ok () w8 := q8
  have b8 := b7.trans (b8' W.heap.size (Nat.le_refl _))
  obtain ⟨w9, q9, h9, b9'⟩ := voc_put h8 (voc_find 8 (by omega))
  have p9 : (Instr.mapUpdate 57 (.map (some W.heap.size)) (.string ⟨#[99, 111, 117, 110, 116]⟩) (.func (.func 60) #[] #[])).run Tryz.prog w8 = .ok () w9 := q9
  have b9 := b8.trans (b9' W.heap.size (Nat.le_refl _))
  obtain ⟨w10, q10, h10, b10'⟩ := voc_put h9 (voc_find 9 (by omega))
  have p10 : (Instr.mapUpdate 57 (.map (some W.heap.size)) (.string ⟨#[99, 111, 108, 108, 101, 99, 116]⟩) (.func (.func 58) #[] #[])).run Tryz.prog w9 = .ok () w10 := q10
  have b10 := b9.trans (b10' W.heap.size (Nat.le_refl _))
  have HH := keepH h10
  have HB := keepH b10
  have hmm := @run_makeMap Tryz.prog
  clear h1 q1 b1 b1' h2 q2 b2 b2' h3 q3 b3 b3' h4 q4 b4 b4' h5 q5 b5 b5' h6 q6 b6 b6' h7 q7 b7 b7' h8 q8 b8 b8' h9 q9 b9 b9' h10 q10 b10 b10' h0 b0
  go_enter Tryz.func23, Tryz.ntmps23
  go_upto_region 4 with fail
  go_wp2_with fail
  go_ret
  exact ⟨by simp, HH.out, HB.out⟩
end Go.Proofs.YtmmaniolaljjlaaGreatDoor
