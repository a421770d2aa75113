/- The tables that are laid; strings.Cut at a blank, ParseUint, kindOf, decimal; Print, the program's and the document's. -/
import Derived.Test.YtoldkjlcfgpnoaaDoorWq
import Derived.Lib.Strings
import Derived.Deep.RegionHeld3
import Derived.Deep.Cut
namespace Go.Proofs.YtoldkjlcfgpnoaaDoor
open Go.RowKit Go.Shelf
set_option linter.unusedVariables false

abbrev mkS (l : List UInt8) : ByteArray := ⟨l.toArray⟩
theorem mkS_data (s : ByteArray) : mkS s.data.toList = s := Lib.mk_data s
theorem mkS_size (l : List UInt8) : (mkS l).size = l.length := by show l.toArray.size = _; simp
theorem mkS_extract (l : List UInt8) (a b : Nat) : (mkS l).extract a b = mkS ((l.drop a).take (b - a)) := Lib.extract_eq _ _ _
theorem mkS_inj {a b : List UInt8} (h : mkS a = mkS b) : a = b := by
  have := congrArg (fun s : ByteArray => s.data.toList) h
  simpa using this

theorem var_below {P : Program} {w w' : World} {n : String} {cs : Array Value} (h : w.var? P n = some cs) (hb : Below w.heap.size w w') : w'.var? P n = some cs := by
  unfold World.var? at *
  cases hg : P.globalNamed n with
  | none => simp [hg] at h
  | some g =>
    simp only [hg, Option.bind_some] at h ⊢
    have hlt : g < w.heap.size := by
      rcases Nat.lt_or_ge g w.heap.size with h' | h'
      · exact h'
      · rw [Array.getElem?_eq_none h'] at h; simp at h
    rw [hb.block g hlt]
    exact h
theorem cell_below {w w' : World} {g i : Nat} {v : Value} (h : w.cell? ⟨g, i, none⟩ = some v) (hb : Below w.heap.size w w') : w'.cell? ⟨g, i, none⟩ = some v := by
  have hlt : g < w.heap.size := by
    rcases Nat.lt_or_ge g w.heap.size with h' | h'
    · exact h'
    · simp [World.cell?, Array.getElem?_eq_none h'] at h
  simp only [World.cell?] at h ⊢
  rw [hb.block g hlt]
  exact h

/-- what is laid ahead of the call -/
structure Tb (w : World) : Prop where
  tab : Lib.TabIs Tryd.prog w "internal/strconv.uint64pow10" .u64 Lib.pow10Tab
  es : ∃ tp p, w.var? Tryd.prog "strconv.ErrSyntax" = some #[.iface tp p]
  er : ∃ tp p, w.var? Tryd.prog "strconv.ErrRange" = some #[.iface tp p]
  kt : ∀ k, k ≤ 3 → w.cell? ⟨0, k, none⟩ = some (.string (mkS (ktL k)))
theorem Tb.on {w w' : World} (h : Tb w) (hb : Below w.heap.size w w') : Tb w' := by
  obtain ⟨h1, ⟨a, b, h2⟩, ⟨c, d, h3⟩, h4⟩ := h
  exact ⟨var_below h1 hb, ⟨a, b, var_below h2 hb⟩, ⟨c, d, var_below h3 hb⟩, fun k hk => cell_below (h4 k hk) hb⟩
theorem below_chain {w w1 w2 : World} (h : Below w.heap.size w w1) (k : Below w1.heap.size w1 w2) : Below w.heap.size w w2 := h.trans (k.mono h.size)

theorem cutI_any (l : List UInt8) (hl : l.length ≤ 281474976710656) (w : World) :
    Calls Tryd.prog 20 #[.string (mkS l), .string ⟨#[32]⟩] w fun e w' => (∃ b, e = .returned (.tuple #[.string (mkS (c1 l)), .string (mkS (c2 l)), .bool b])) ∧ Below w.heap.size w w' := by
  rcases c_cases l with ⟨h1, h2⟩ | ⟨a, r, ha, hlr, h2⟩
  · rw [c1_none h1, c2_none h1]
    have hix := Any.stringslite_Index_one Tryd.lays219 (mkS l) 32 w
    rw [show Lib.indexByte (mkS l).data.toList 32 = -1 from h2] at hix
    go_enter Tryd.func20, Tryd.ntmps20
    go_wp2_with (go_at_call 25; refine hix.mono ?_; rintro e w' ⟨rfl, rfl⟩)
    go_ret3
    exact ⟨⟨_, rfl⟩, Below.refl _ _⟩
  · have hix := Any.stringslite_Index_one Tryd.lays219 (mkS l) 32 w
    rw [show Lib.indexByte (mkS l).data.toList 32 = (a.length : Int) from h2] at hix
    have hsz : (mkS l).size = l.length := mkS_size l
    have hll : l.length = a.length + 1 + r.length := by rw [hlr]; simp; omega
    have e1 : mkS (c1 l) = (mkS l).extract 0 a.length := by rw [mkS_extract, hlr, c1_at ha]; simp
    have e2 : mkS (c2 l) = (mkS l).extract (a.length + 1) (mkS l).size := by
      rw [mkS_extract, hsz, hll, hlr, c2_at ha]
      congr 1
      rw [show a ++ 32 :: r = (a ++ [32]) ++ r by simp, List.drop_left' (by simp), List.take_of_length_le (by omega)]
    rw [e1, e2]
    obtain ⟨s, hs⟩ : ∃ s, s = mkS l := ⟨_, rfl⟩
    rw [← hs] at hix hsz ⊢
    obtain ⟨n, hn⟩ : ∃ n, n = a.length := ⟨_, rfl⟩
    rw [← hn] at hix ⊢
    have k1 : (0 : Int) ≤ (n : Int) := by omega
    have k2 : (n : Int) ≤ (s.size : Int) := by omega
    have k3 : (0 : Int) ≤ (n : Int) + 1 := by omega
    have k4 : (n : Int) + 1 ≤ (s.size : Int) := by omega
    have k5 : IntKind.i64.wrap ((n : Int) + 1) = (n : Int) + 1 := by rw [IntKind.wrap_i64]; omega
    have k6 : wrap64 ((n : Int) + 1) = (n : Int) + 1 := by unfold wrap64; omega
    clear e1 e2 hs hn hlr h2 ha hsz hll
    go_enter Tryd.func20, Tryd.ntmps20
    go_wp2_with (go_at_call 25; refine hix.mono ?_; rintro e w' ⟨rfl, rfl⟩)
    have mixed := Tryd.lays219.mixed
    go_region_o
    go_wp2
    go_ret3
    exact ⟨⟨_, rfl⟩, below_drewN (Below.refl _ _) 1⟩

theorem cut_any (l : List UInt8) (hl : l.length ≤ 281474976710656) (w : World) :
    Calls Tryd.prog 14 #[.string (mkS l), .string ⟨#[32]⟩] w fun e w' => (∃ b, e = .returned (.tuple #[.string (mkS (c1 l)), .string (mkS (c2 l)), .bool b])) ∧ Below w.heap.size w w' := by
  go_enter Tryd.func14, Tryd.ntmps14
  go_wp2_with fail
  refine (cutI_any l hl w).mono ?_
  rintro e w1 ⟨⟨b, rfl⟩, hb⟩
  go_wp2
  go_ret3
  exact ⟨⟨_, rfl⟩, hb⟩

theorem pu_ok (l : List UInt8) (hl : l.length ≤ 281474976710656) (u : Nat) (h : Lib.parseUintB 64 l = .ok u) (w : World) :
    Calls Tryd.prog 16 #[.string (mkS l), .int .i64 10, .int .i64 64] w fun e w' => e = .returned (.tuple #[.int .u64 u, .nilIface]) ∧ Below w.heap.size w w' := by
  refine (Any.strconv_ParseUint_10_at64_ok Tryd.laysPu (mkS l) (by rw [mkS_size]; omega) u (by simpa using h) w).mono ?_
  rintro e w' ⟨rfl, hw⟩
  refine ⟨rfl, ?_⟩
  rcases hw with rfl | rfl
  · exact Below.refl _ _
  · exact Lib.bytesWorld_below _ _ _
theorem pu_no (l : List UInt8) (hl : l.length ≤ 281474976710656) (h : ∀ u, Lib.parseUintB 64 l ≠ .ok u) (w : World) (T : Tb w) :
    Calls Tryd.prog 16 #[.string (mkS l), .int .i64 10, .int .i64 64] w fun e w' => (∃ (u : Nat) (t : TypeId) (p : Value), u < 18446744073709551616 ∧ e = .returned (.tuple #[.int .u64 u, .iface t p])) ∧ Below w.heap.size w w' := by
  cases hp : Lib.parseUintB 64 l with
  | ok u => exact absurd hp (h u)
  | «syntax» =>
    obtain ⟨a, b, h2⟩ := T.es
    refine (Any.strconv_ParseUint_10_at64_syntax_var Tryd.laysPu (mkS l) (by rw [mkS_size]; omega) (by simpa using hp) a b w h2).mono ?_
    rintro e w' ⟨N, rfl, -, -, hb⟩
    exact ⟨⟨0, _, _, by omega, rfl⟩, hb⟩
  | range =>
    obtain ⟨a, b, h2⟩ := T.er
    refine (Any.strconv_ParseUint_10_at64_range_var Tryd.laysPu (mkS l) (by rw [mkS_size]; omega) (by simpa using hp) a b w h2).mono ?_
    rintro e w' ⟨N, rfl, -, -, hb⟩
    exact ⟨⟨18446744073709551615, _, _, by omega, rfl⟩, hb⟩
end Go.Proofs.YtoldkjlcfgpnoaaDoor
