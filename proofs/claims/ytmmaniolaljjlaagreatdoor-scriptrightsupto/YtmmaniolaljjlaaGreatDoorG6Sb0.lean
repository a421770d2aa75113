/- Accesses as lines of text, there and back. Pure. -/
import Derived.Test.YtmmaniolaljjlaaGreatDoorG5Hta
import Derived.Lib.Join
import Derived.Lib.ParseIntB
import Derived.Shelf.Strconv.Itoa3
import Derived.Shelf.Strconv.ErrVarAll
import Derived.Shelf.Strings.Split
import Derived.Shelf.Strings.SplitShaped
import Derived.Shelf.Strings.BuilderK
import Derived.Shelf.Strings.OnBuilder
import Derived.Shelf.Small.Strs
import Derived.Shelf.Strconv.Itoa2
import Derived.Shelf.Strings.Search2
import Derived.Shelf.Pu.ErrVarParseUint
import Derived.Test.YtmmaniolaljjlaaGreatDoorChecked
import Derived.Test.YtmmaniolaljjlaaGreatDoorG3Note
import Derived.Lib.FrozenHead2
import Derived.Lib.Strings
import Derived.Lib.QuietBelow
import Derived.Laws.Concat
import Derived.Laws.Strings2
import Derived.Laws.Slices
namespace Go.Proofs.YtmmaniolaljjlaaGreatDoor
open Go.Lib
set_option linter.unusedVariables false

structure Ax where
  th : Int
  kind : Nat
  addr : Nat
  a : Nat
  b : Nat
  vals : List Nat
  got : Nat
  ok : Bool
def isU (n : Nat) : Prop := n < 18446744073709551616
structure Ax.Ok (x : Ax) : Prop where
  th0 : -9223372036854775808 ≤ x.th
  th1 : x.th < 9223372036854775808
  kind : x.kind < 256
  addr : isU x.addr
  a : isU x.a
  b : isU x.b
  got : isU x.got
  vals : ∀ v ∈ x.vals, isU v
def wordL : Nat → List UInt8
  | 1 => [108, 111, 97, 100]
  | 2 => [115, 116, 111, 114, 101]
  | 3 => [99, 97, 115]
  | 4 => [97, 100, 100]
  | 5 => [97, 108, 108, 111, 99]
  | _ => []
def numsL (x : Ax) : List Nat :=
  if x.kind = 1 then [x.addr, x.got] else if x.kind = 2 then [x.addr, x.a] else if x.kind = 3 then [x.addr, x.a, x.b] else if x.kind = 4 then [x.addr, x.a, x.got] else if x.kind = 5 then [x.addr] else []
def okL (b : Bool) : List UInt8 := if b then [121, 101, 115] else [110, 111]
def RightA (x : Ax) : Prop :=
  (x.kind = 1 ∧ x.a = 0 ∧ x.b = 0 ∧ x.vals = [] ∧ x.ok = false) ∨ (x.kind = 2 ∧ x.b = 0 ∧ x.vals = [] ∧ x.got = 0 ∧ x.ok = false) ∨ (x.kind = 3 ∧ x.vals = [] ∧ x.got = 0) ∨
  (x.kind = 4 ∧ x.b = 0 ∧ x.vals = [] ∧ x.ok = false) ∨ (x.kind = 5 ∧ x.a = 0 ∧ x.b = 0 ∧ x.got = 0 ∧ x.ok = false)
instance (x : Ax) : Decidable (RightA x) := by unfold RightA; infer_instance
def partsL (x : Ax) : List (List UInt8) := itoa x.th :: wordL x.kind :: ((numsL x).map decDigits ++ ((if x.kind = 3 then [okL x.ok] else []) ++ x.vals.map decDigits))
def lineA (x : Ax) : List UInt8 := join (partsL x) [32]

/-! a text cut at its blanks, and joined -/
theorem join_cc (x y : List UInt8) (r : List (List UInt8)) : join (x :: y :: r) [32] = x ++ 32 :: join (y :: r) [32] := by
  rw [join_cons, join_cons]; simp [joinTail]
theorem split_step (k : Nat) (x r : List UInt8) (hx : noB 32 x) : splitK [32] 0 (k + 1) (x ++ 32 :: r) = x :: splitK [32] 0 k r := by
  rw [splitK, ix_sub, ix_at hx, if_neg (by simp)]
  congr 1
  · simp
  · congr 1
    have e : (x.length : Int).toNat + ([32] : List UInt8).length = x.length + 1 := by simp
    rw [e]
    rw [show x ++ 32 :: r = (x ++ [(32 : UInt8)]) ++ r by simp, List.drop_left' (by simp)]
theorem count_join : ∀ (fs : List (List UInt8)), (∀ f ∈ fs, noB 32 f) → (join fs [32]).count 32 = fs.length - 1
  | [], _ => rfl
  | [x], h => by rw [join_one]; exact List.count_eq_zero.mpr (fun hm => h x (by simp) 32 hm rfl)
  | x :: y :: r, h => by
    rw [join_cc, List.count_append, List.count_cons_self, count_join (y :: r) (fun f hf => h f (by simp [hf]))]
    rw [List.count_eq_zero.mpr (fun hm => h x (by simp) 32 hm rfl)]
    simp
theorem splitK_join : ∀ (fs : List (List UInt8)), fs ≠ [] → (∀ f ∈ fs, noB 32 f) → splitK [32] 0 (fs.length - 1) (join fs [32]) = fs
  | [], h, _ => absurd rfl h
  | [x], _, h => by rw [join_one]; rfl
  | x :: y :: r, _, h => by
    have ih := splitK_join (y :: r) (by simp) (fun f hf => h f (by simp [hf]))
    rw [join_cc, show (x :: y :: r).length - 1 = ((y :: r).length - 1) + 1 by simp, split_step _ _ _ (h x (by simp)), ih]
theorem split_join (fs : List (List UInt8)) (h0 : fs ≠ []) (h : ∀ f ∈ fs, noB 32 f) : split (join fs [32]) [32] = fs := by
  unfold split
  rw [count_one, count_join fs h]
  exact splitK_join fs h0 h
theorem joinK_split : ∀ (k : Nat) (s : List UInt8), join (splitK [32] 0 k s) [32] = s ∧ splitK [32] 0 k s ≠ []
  | 0, s => by simp [splitK, join_one]
  | k + 1, s => by
    rcases ix_cases 32 s with h | ⟨a, r, ha, rfl⟩
    · rw [splitK, ix_sub, ix_none h, if_pos (by decide)]
      simp [join_one]
    · rw [split_step _ _ _ ha]
      obtain ⟨h1, h2⟩ := joinK_split k r
      cases hs : splitK [32] 0 k r with
      | nil => exact absurd hs h2
      | cons y t =>
        rw [hs] at h1
        rw [join_cc, h1]
        simp
theorem join_split (s : List UInt8) : join (split s [32]) [32] = s := (joinK_split _ s).1
theorem split_ne (s : List UInt8) : split s [32] ≠ [] := (joinK_split _ s).2

/-! numbers, in the one form in which they are written -/
theorem pum_eq : ∀ (l : List UInt8) (acc : Nat), parseUintM (2 ^ 64 - 1) acc l = parseUint10 acc l := by
  intro l
  induction l with
  | nil => intro acc; rfl
  | cons c r ih =>
    intro acc
    simp only [parseUintM, parseUint10]
    split
    · split
      · rfl
      · have e : (2 ^ 64 - 1 < acc * 10 + (c.toNat - 48)) ↔ (18446744073709551616 ≤ acc * 10 + (c.toNat - 48)) := by omega
        simp only [e, ih]
    · rfl
theorem pu_mag (l : List UInt8) : parseUintB 64 l = parseMag l := by
  unfold parseUintB parseMag
  rw [pum_eq]
def natP (f : List UInt8) : Option Nat := match parseMag f with | .ok u => if decDigits u = f then some u else none | _ => none
theorem natP_dec (u : Nat) (h : isU u) : natP (decDigits u) = some u := by
  unfold natP; rw [mag_dec u h]; simp
theorem natP_some {f : List UInt8} {u : Nat} (h : natP f = some u) : f = decDigits u ∧ isU u := by
  unfold natP at h
  split at h
  · rename_i v hv
    split at h
    · rename_i e
      injection h with h
      subst h
      exact ⟨e.symm, parseMag_lt hv⟩
    · cases h
  · cases h
def intP (f : List UInt8) : Option Int := match atoiAll f with | .ok v => if itoa v = f then some v else none | _ => none
theorem intP_itoa (v : Int) (h0 : -9223372036854775808 ≤ v) (h1 : v < 9223372036854775808) : intP (itoa v) = some v := by
  unfold intP; rw [atoi_itoa v h0 h1]; simp
theorem atoi_range {f : List UInt8} {v : Int} (h : atoiAll f = .ok v) : -9223372036854775808 ≤ v ∧ v < 9223372036854775808 := by
  unfold atoiAll at h
  split at h
  · cases h
  · simp only at h
    split at h
    · cases h
    · cases h
    · split at h
      · cases h
      · split at h
        · cases h
        · injection h with h
          subst h
          split <;> omega
theorem intP_some {f : List UInt8} {v : Int} (h : intP f = some v) : f = itoa v ∧ -9223372036854775808 ≤ v ∧ v < 9223372036854775808 := by
  unfold intP at h
  split at h
  · rename_i u hv
    split at h
    · rename_i e
      injection h with h
      subst h
      exact ⟨e.symm, atoi_range hv⟩
    · cases h
  · cases h
def natsP : List (List UInt8) → Option (List Nat)
  | [] => some []
  | f :: r => match natP f with | none => none | some u => match natsP r with | none => none | some us => some (u :: us)
theorem natsP_dec : ∀ (us : List Nat), (∀ u ∈ us, isU u) → natsP (us.map decDigits) = some us
  | [], _ => rfl
  | u :: us, h => by
    simp only [List.map_cons, natsP, natP_dec u (h u (by simp)), natsP_dec us (fun v hv => h v (by simp [hv]))]
theorem natsP_some : ∀ {fs : List (List UInt8)} {us : List Nat}, natsP fs = some us → fs = us.map decDigits ∧ ∀ u ∈ us, isU u
  | [], us, h => by
    injection h with h; subst h
    exact ⟨rfl, fun u hu => by simp at hu⟩
  | f :: r, us, h => by
    simp only [natsP] at h
    split at h
    · cases h
    · rename_i u hu
      split at h
      · cases h
      · rename_i us' hus
        injection h with h; subst h
        obtain ⟨e1, e2⟩ := natP_some hu
        obtain ⟨e3, e4⟩ := natsP_some hus
        refine ⟨by rw [List.map_cons, ← e1, ← e3], fun v hv => ?_⟩
        rcases List.mem_cons.mp hv with rfl | hv
        · exact e2
        · exact e4 v hv

/-! an access read -/
def kindP (w : List UInt8) : Option Nat := if w = wordL 1 then some 1 else if w = wordL 2 then some 2 else if w = wordL 3 then some 3 else if w = wordL 4 then some 4 else if w = wordL 5 then some 5 else none
def cntK (k : Nat) : Nat := if k = 1 then 2 else if k = 2 then 2 else if k = 3 then 3 else if k = 4 then 3 else if k = 5 then 1 else 0
/-- the access of a thread and a kind with these numbers -/
def putA (th : Int) (k : Nat) (ns : List Nat) (ok : Bool) (vals : List Nat) : Ax :=
  if k = 1 then ⟨th, k, ns.getD 0 0, 0, 0, vals, ns.getD 1 0, ok⟩ else if k = 2 then ⟨th, k, ns.getD 0 0, ns.getD 1 0, 0, vals, 0, ok⟩ else if k = 3 then ⟨th, k, ns.getD 0 0, ns.getD 1 0, ns.getD 2 0, vals, 0, ok⟩
  else if k = 4 then ⟨th, k, ns.getD 0 0, ns.getD 1 0, 0, vals, ns.getD 2 0, ok⟩ else ⟨th, k, ns.getD 0 0, 0, 0, vals, 0, ok⟩
/-- what stands behind the numbers -/
def tailP (k : Nat) (r : List (List UInt8)) : Option (Bool × List Nat) :=
  if k = 3 then (if r = [okL true] then some (true, []) else if r = [okL false] then some (false, []) else none)
  else if k = 5 then (match natsP r with | none => none | some us => some (false, us))
  else if r = [] then some (false, []) else none
def fillP (th : Int) (k : Nat) (r : List (List UInt8)) : Option Ax :=
  if r.length < cntK k then none else
  match natsP (r.take (cntK k)) with
  | none => none
  | some ns => match tailP k (r.drop (cntK k)) with | none => none | some q => some (putA th k ns q.1 q.2)
def accP : List (List UInt8) → Option Ax
  | f0 :: f1 :: r => match intP f0 with | none => none | some th => match kindP f1 with | none => none | some k => fillP th k r
  | _ => none
theorem kindP_some {w : List UInt8} {k : Nat} (h : kindP w = some k) : w = wordL k ∧ 1 ≤ k ∧ k ≤ 5 := by
  unfold kindP at h
  repeat' split at h
  all_goals first | (cases h; done) | (injection h with h; subst h; refine ⟨by assumption, by omega, by omega⟩)
theorem kindP_word {k : Nat} (h1 : 1 ≤ k) (h5 : k ≤ 5) : kindP (wordL k) = some k := by
  have : k = 1 ∨ k = 2 ∨ k = 3 ∨ k = 4 ∨ k = 5 := by omega
  rcases this with rfl | rfl | rfl | rfl | rfl <;> rfl
theorem dec_no (n : Nat) : noB 32 (decDigits n) ∧ noB 10 (decDigits n) := by
  refine ⟨fun x hx e => ?_, fun x hx e => ?_⟩ <;> (have := dec_digit n x hx; subst e; revert this; decide)
theorem word_no (k : Nat) : noB 32 (wordL k) ∧ noB 10 (wordL k) := by
  unfold noB wordL
  split <;> exact ⟨by decide, by decide⟩
theorem ok_no (b : Bool) : noB 32 (okL b) ∧ noB 10 (okL b) := by cases b <;> exact ⟨by unfold noB okL; decide, by unfold noB okL; decide⟩
theorem parts_no (x : Ax) : ∀ f ∈ partsL x, noB 32 f ∧ noB 10 f := by
  intro f hf
  unfold partsL at hf
  rcases List.mem_cons.mp hf with rfl | hf
  · exact ⟨itoa_no _ _ (by decide), itoa_no _ _ (by decide)⟩
  rcases List.mem_cons.mp hf with rfl | hf
  · exact word_no _
  rcases List.mem_append.mp hf with hf | hf
  · obtain ⟨n, _, rfl⟩ := List.mem_map.mp hf
    exact dec_no n
  rcases List.mem_append.mp hf with hf | hf
  · split at hf
    · simp at hf; subst hf; exact ok_no _
    · simp at hf
  · obtain ⟨n, _, rfl⟩ := List.mem_map.mp hf
    exact dec_no n
theorem split_line (x : Ax) : split (lineA x) [32] = partsL x := split_join _ (by unfold partsL; simp) (fun f hf => (parts_no x f hf).1)
theorem join_noB : ∀ (fs : List (List UInt8)), (∀ f ∈ fs, noB 10 f) → noB 10 (join fs [32])
  | [], _ => noB_nil _
  | [x], h => by rw [join_one]; exact h x (by simp)
  | x :: y :: r, h => by
    rw [join_cc]
    exact (h x (by simp)).append ((noB.cons (by decide)) (join_noB (y :: r) (fun f hf => h f (by simp [hf]))))
theorem line_no (x : Ax) : noB 10 (lineA x) := join_noB _ (fun f hf => (parts_no x f hf).2)
theorem right_kind {x : Ax} (h : RightA x) : 1 ≤ x.kind ∧ x.kind ≤ 5 := by
  rcases h with h | h | h | h | h <;> omega
/-- a right access is read back -/
theorem accP_line {x : Ax} (h : RightA x) (o : x.Ok) : accP (partsL x) = some x := by
  have hk := right_kind h
  obtain ⟨th, kind, addr, a, b, vals, got, ok⟩ := x
  have oth0 := o.th0
  have oth1 := o.th1
  have oad := o.addr
  have oa := o.a
  have ob := o.b
  have og := o.got
  have ov := o.vals
  simp only at hk oth0 oth1 oad oa ob og ov
  unfold partsL accP
  simp only [intP_itoa th oth0 oth1, kindP_word hk.1 hk.2]
  have n1 : ∀ u, isU u → natP (decDigits u) = some u := natP_dec
  rcases h with ⟨e1, e2⟩ | ⟨e1, e2⟩ | ⟨e1, e2⟩ | ⟨e1, e2⟩ | ⟨e1, e2⟩ <;> simp only at e1 e2 <;> subst e1
  · obtain ⟨rfl, rfl, rfl, rfl⟩ := e2
    simp [fillP, numsL, cntK, natsP, n1 _ oad, n1 _ og, tailP, putA]
  · obtain ⟨rfl, rfl, rfl, rfl⟩ := e2
    simp [fillP, numsL, cntK, natsP, n1 _ oad, n1 _ oa, tailP, putA]
  · obtain ⟨rfl, rfl⟩ := e2
    cases ok
    · simp [fillP, numsL, cntK, natsP, n1 _ oad, n1 _ oa, n1 _ ob, tailP, putA, okL]
    · simp [fillP, numsL, cntK, natsP, n1 _ oad, n1 _ oa, n1 _ ob, tailP, putA, okL]
  · obtain ⟨rfl, rfl, rfl⟩ := e2
    simp [fillP, numsL, cntK, natsP, n1 _ oad, n1 _ oa, n1 _ og, tailP, putA]
  · obtain ⟨rfl, rfl, rfl, rfl⟩ := e2
    simp [fillP, numsL, cntK, natsP, n1 _ oad, tailP, putA, natsP_dec vals ov]
theorem okU0 : isU 0 := by unfold isU; omega
/-- what is read is a right access, and has that text -/
theorem accP_some {ps : List (List UInt8)} {x : Ax} (h : accP ps = some x) : RightA x ∧ x.Ok ∧ ps = partsL x := by
  unfold accP at h
  split at h
  · rename_i f0 f1 r
    split at h
    · cases h
    rename_i th hth
    split at h
    · cases h
    rename_i k hk
    obtain ⟨e0, t0, t1⟩ := intP_some hth
    obtain ⟨e1, k1, k5⟩ := kindP_some hk
    unfold fillP at h
    split at h
    · cases h
    rename_i hlen
    split at h
    · cases h
    rename_i ns hns
    split at h
    · cases h
    rename_i q hq
    injection h with h
    obtain ⟨en, on⟩ := natsP_some hns
    have er : r = ns.map decDigits ++ r.drop (cntK k) := by rw [← en, List.take_append_drop]
    have hl : ns.length = cntK k := by
      have := congrArg List.length en
      rw [List.length_take, List.length_map] at this
      omega
    have hkk : k = 1 ∨ k = 2 ∨ k = 3 ∨ k = 4 ∨ k = 5 := by omega
    obtain ⟨q1, q2⟩ := q
    rcases hkk with rfl | rfl | rfl | rfl | rfl
    · match ns, hl with
      | [n0, n1], _ =>
        simp only [tailP] at hq
        rw [if_neg (by omega), if_neg (by omega)] at hq
        split at hq
        · rename_i hr
          injection hq with hq; injection hq with hq1 hq2; subst hq1 hq2
          subst h
          have o0 := on n0 (by simp)
          have o1 := on n1 (by simp)
          refine ⟨Or.inl (by simp [putA]), ⟨t0, t1, by simp [putA], by simpa [putA] using o0, okU0, okU0, by simpa [putA] using o1, by simp [putA]⟩, ?_⟩
          rw [e0, e1, er, hr]
          simp [partsL, numsL, putA]
        · cases hq
    · match ns, hl with
      | [n0, n1], _ =>
        simp only [tailP] at hq
        rw [if_neg (by omega), if_neg (by omega)] at hq
        split at hq
        · rename_i hr
          injection hq with hq; injection hq with hq1 hq2; subst hq1 hq2
          subst h
          have o0 := on n0 (by simp)
          have o1 := on n1 (by simp)
          refine ⟨Or.inr (Or.inl (by simp [putA])), ⟨t0, t1, by simp [putA], by simpa [putA] using o0, by simpa [putA] using o1, okU0, okU0, by simp [putA]⟩, ?_⟩
          rw [e0, e1, er, hr]
          simp [partsL, numsL, putA]
        · cases hq
    · match ns, hl with
      | [n0, n1, n2], _ =>
        simp only [tailP] at hq
        rw [if_pos trivial] at hq
        have o0 := on n0 (by simp)
        have o1 := on n1 (by simp)
        have o2 := on n2 (by simp)
        split at hq
        · rename_i hr
          injection hq with hq; injection hq with hq1 hq2; subst hq1 hq2
          subst h
          refine ⟨Or.inr (Or.inr (Or.inl (by simp [putA]))), ⟨t0, t1, by simp [putA], by simpa [putA] using o0, by simpa [putA] using o1, by simpa [putA] using o2, okU0, by simp [putA]⟩, ?_⟩
          rw [e0, e1, er, hr]
          simp [partsL, numsL, putA]
        · split at hq
          · rename_i hr
            injection hq with hq; injection hq with hq1 hq2; subst hq1 hq2
            subst h
            refine ⟨Or.inr (Or.inr (Or.inl (by simp [putA]))), ⟨t0, t1, by simp [putA], by simpa [putA] using o0, by simpa [putA] using o1, by simpa [putA] using o2, okU0, by simp [putA]⟩, ?_⟩
            rw [e0, e1, er, hr]
            simp [partsL, numsL, putA]
          · cases hq
    · match ns, hl with
      | [n0, n1, n2], _ =>
        simp only [tailP] at hq
        rw [if_neg (by omega), if_neg (by omega)] at hq
        split at hq
        · rename_i hr
          injection hq with hq; injection hq with hq1 hq2; subst hq1 hq2
          subst h
          have o0 := on n0 (by simp)
          have o1 := on n1 (by simp)
          have o2 := on n2 (by simp)
          refine ⟨Or.inr (Or.inr (Or.inr (Or.inl (by simp [putA])))), ⟨t0, t1, by simp [putA], by simpa [putA] using o0, by simpa [putA] using o1, okU0, by simpa [putA] using o2, by simp [putA]⟩, ?_⟩
          rw [e0, e1, er, hr]
          simp [partsL, numsL, putA]
        · cases hq
    · match ns, hl with
      | [n0], _ =>
        simp only [tailP] at hq
        rw [if_neg (by omega), if_pos trivial] at hq
        split at hq
        · cases hq
        · rename_i us hus
          injection hq with hq; injection hq with hq1 hq2; subst hq1 hq2
          subst h
          obtain ⟨eu, ou⟩ := natsP_some hus
          have o0 := on n0 (by simp)
          refine ⟨Or.inr (Or.inr (Or.inr (Or.inr (by simp [putA])))), ⟨t0, t1, by simp [putA], by simpa [putA] using o0, okU0, okU0, okU0, by simpa [putA] using ou⟩, ?_⟩
          rw [e0, e1, er, eu]
          simp [partsL, numsL, putA]
  · cases h
/-- what parse tells of a line -/
def lineP (t : List UInt8) : Option Ax := accP (split t [32])
theorem lineP_some {t : List UInt8} {x : Ax} (h : lineP t = some x) : RightA x ∧ x.Ok ∧ t = lineA x := by
  obtain ⟨a, b, c⟩ := accP_some h
  exact ⟨a, b, by unfold lineA; rw [← c, join_split]⟩
theorem lineP_line {x : Ax} (h : RightA x) (o : x.Ok) : lineP (lineA x) = some x := by
  unfold lineP
  rw [split_line]
  exact accP_line h o
end Go.Proofs.YtmmaniolaljjlaaGreatDoor
/- strconv and strings: the layings at this program, in plain words (shelfR.sh printed it). -/
namespace Go.Proofs
open Go.Shelf
def Tryz.lays171_ren : Go.Shelf.Ren := ⟨fun | 171 => 29 | 243 => 72 | 246 => 95 | 283 => 113 | 284 => 114 | 285 => 115 | 286 => 116 | 129 => 138 | 317 => 137 | 318 => 139 | 319 => 140 | 320 => 141 | 337 => 155 | 338 => 156 | n => n, fun | 3 => 3 | 9 => 9 | 2 => 2 | 4 => 4 | 171 => 179 | 0 => 0 | 53 => 23 | 37 => 77 | 5 => 5 | 173 => 182 | 212 => 213 | 51 => 214 | 20 => 20 | 213 => 215 | 46 => 211 | 232 => 248 | 233 => 249 | n => n, fun | 17 => 2 | 18 => 5 | 19 => 6 | n => n⟩
theorem Tryz.lays171 : Go.Proofs.LaysM.n171 Tryz.prog Tryz.lays171_ren := {
  mixed := by kernel_rfl
  f129 := Tryz.func138.trans (congrArg some (by kernel_rfl))
  f171 := Tryz.func29.trans (congrArg some (by kernel_rfl))
  f243 := Tryz.func72.trans (congrArg some (by kernel_rfl))
  f246 := Tryz.func95.trans (congrArg some (by kernel_rfl))
  f283 := Tryz.func113.trans (congrArg some (by kernel_rfl))
  f284 := Tryz.func114.trans (congrArg some (by kernel_rfl))
  f285 := Tryz.func115.trans (congrArg some (by kernel_rfl))
  f286 := Tryz.func116.trans (congrArg some (by kernel_rfl))
  f317 := Tryz.func137.trans (congrArg some (by kernel_rfl))
  f318 := Tryz.func139.trans (congrArg some (by kernel_rfl))
  f319 := Tryz.func140.trans (congrArg some (by kernel_rfl))
  f320 := Tryz.func141.trans (congrArg some (by kernel_rfl))
  f337 := Tryz.func155.trans (congrArg some (by kernel_rfl))
  f338 := Tryz.func156.trans (congrArg some (by kernel_rfl))
  t0 := Tryz.underlying0
  a0 := Tryz.isAgg0
  z0 := Tryz.sizeOf0
  v0 := Tryz.zeroValue0
  t2 := Tryz.underlying2
  a2 := Tryz.isAgg2
  z2 := Tryz.sizeOf2
  v2 := Tryz.zeroValue2
  t3 := Tryz.underlying3
  a3 := Tryz.isAgg3
  z3 := Tryz.sizeOf3
  v3 := Tryz.zeroValue3
  t4 := Tryz.underlying4
  a4 := Tryz.isAgg4
  z4 := Tryz.sizeOf4
  v4 := Tryz.zeroValue4
  t5 := Tryz.underlying5
  a5 := Tryz.isAgg5
  z5 := Tryz.sizeOf5
  v5 := Tryz.zeroValue5
  t9 := Tryz.underlying9
  a9 := Tryz.isAgg9
  z9 := Tryz.sizeOf9
  v9 := Tryz.zeroValue9
  t20 := Tryz.underlying20
  a20 := Tryz.isAgg20
  z20 := Tryz.sizeOf20
  v20 := Tryz.zeroValue20
  t37 := Tryz.underlying77
  a37 := Tryz.isAgg77
  z37 := Tryz.sizeOf77
  v37 := Tryz.zeroValue77
  t46 := Tryz.underlying211
  a46 := Tryz.isAgg211
  z46 := Tryz.sizeOf211
  v46 := Tryz.zeroValue211
  t51 := Tryz.underlying214
  a51 := Tryz.isAgg214
  z51 := Tryz.sizeOf214
  v51 := Tryz.zeroValue214
  t53 := Tryz.underlying23
  a53 := Tryz.isAgg23
  z53 := Tryz.sizeOf23
  v53 := Tryz.zeroValue23
  t171 := Tryz.underlying179
  a171 := Tryz.isAgg179
  z171 := Tryz.sizeOf179
  v171 := Tryz.zeroValue179
  t173 := Tryz.underlying182
  a173 := Tryz.isAgg182
  z173 := Tryz.sizeOf182
  v173 := Tryz.zeroValue182
  t212 := Tryz.underlying213
  a212 := Tryz.isAgg213
  z212 := Tryz.sizeOf213
  v212 := Tryz.zeroValue213
  t213 := Tryz.underlying215
  a213 := Tryz.isAgg215
  z213 := Tryz.sizeOf215
  t232 := Tryz.underlying248
  a232 := Tryz.isAgg248
  z232 := Tryz.sizeOf248
  v232 := Tryz.zeroValue248
  t233 := Tryz.underlying249
  a233 := Tryz.isAgg249
  z233 := Tryz.sizeOf249
  v233 := Tryz.zeroValue249
  g17 := by kernel_rfl
  g18 := by kernel_rfl
  g19 := by kernel_rfl
  i0 := by kernel_rfl
  i2 := by kernel_rfl
  i3 := by kernel_rfl
  i4 := by kernel_rfl
  i5 := by kernel_rfl
  i9 := by kernel_rfl
  i20 := by kernel_rfl
  i37 := by kernel_rfl
  i46 := by kernel_rfl
  i51 := by kernel_rfl
  i53 := by kernel_rfl
  i171 := by kernel_rfl
  i173 := by kernel_rfl
  i212 := by kernel_rfl
  i232 := by kernel_rfl
  i233 := by kernel_rfl
  m17 := by kernel_rfl
  m18 := by kernel_rfl
  m19 := by kernel_rfl }
def Tryz.lays172_ren : Go.Shelf.Ren := ⟨fun | 172 => 81 | 244 => 102 | 245 => 103 | 247 => 122 | 279 => 123 | 280 => 124 | 281 => 125 | 282 => 126 | 287 => 121 | 316 => 148 | 171 => 29 | 205 => 149 | 321 => 146 | 322 => 147 | 243 => 72 | 246 => 95 | 283 => 113 | 284 => 114 | 285 => 115 | 286 => 116 | 129 => 138 | 317 => 137 | 318 => 139 | 319 => 140 | 320 => 141 | 337 => 155 | 338 => 156 | n => n, fun | 9 => 9 | 3 => 3 | 75 => 81 | 76 => 82 | 4 => 4 | 5 => 5 | 167 => 186 | 37 => 77 | 0 => 0 | 85 => 187 | 2 => 2 | 168 => 189 | 53 => 23 | 175 => 159 | 46 => 211 | 210 => 225 | 127 => 131 | 145 => 244 | 143 => 242 | 21 => 21 | 171 => 179 | 173 => 182 | 212 => 213 | 51 => 214 | 20 => 20 | 213 => 215 | 232 => 248 | 233 => 249 | 80 => 88 | n => n, fun | 15 => 3 | 16 => 4 | 17 => 2 | 18 => 5 | 19 => 6 | n => n⟩
theorem Tryz.lays172 : Go.Proofs.LaysC.n172 Tryz.prog Tryz.lays172_ren := {
  mixed := by kernel_rfl
  f129 := Tryz.func138.trans (congrArg some (by kernel_rfl))
  f171 := Tryz.func29.trans (congrArg some (by kernel_rfl))
  f172 := Tryz.func81.trans (congrArg some (by kernel_rfl))
  f205 := Tryz.func149.trans (congrArg some (by kernel_rfl))
  f243 := Tryz.func72.trans (congrArg some (by kernel_rfl))
  f244 := Tryz.func102.trans (congrArg some (by kernel_rfl))
  f245 := Tryz.func103.trans (congrArg some (by kernel_rfl))
  f246 := Tryz.func95.trans (congrArg some (by kernel_rfl))
  f247 := Tryz.func122.trans (congrArg some (by kernel_rfl))
  f279 := Tryz.func123.trans (congrArg some (by kernel_rfl))
  f280 := Tryz.func124.trans (congrArg some (by kernel_rfl))
  f281 := Tryz.func125.trans (congrArg some (by kernel_rfl))
  f282 := Tryz.func126.trans (congrArg some (by kernel_rfl))
  f283 := Tryz.func113.trans (congrArg some (by kernel_rfl))
  f284 := Tryz.func114.trans (congrArg some (by kernel_rfl))
  f285 := Tryz.func115.trans (congrArg some (by kernel_rfl))
  f286 := Tryz.func116.trans (congrArg some (by kernel_rfl))
  f287 := Tryz.func121.trans (congrArg some (by kernel_rfl))
  f316 := Tryz.func148.trans (congrArg some (by kernel_rfl))
  f317 := Tryz.func137.trans (congrArg some (by kernel_rfl))
  f318 := Tryz.func139.trans (congrArg some (by kernel_rfl))
  f319 := Tryz.func140.trans (congrArg some (by kernel_rfl))
  f320 := Tryz.func141.trans (congrArg some (by kernel_rfl))
  f321 := Tryz.func146.trans (congrArg some (by kernel_rfl))
  f322 := Tryz.func147.trans (congrArg some (by kernel_rfl))
  f337 := Tryz.func155.trans (congrArg some (by kernel_rfl))
  f338 := Tryz.func156.trans (congrArg some (by kernel_rfl))
  t0 := Tryz.underlying0
  a0 := Tryz.isAgg0
  z0 := Tryz.sizeOf0
  v0 := Tryz.zeroValue0
  t2 := Tryz.underlying2
  a2 := Tryz.isAgg2
  z2 := Tryz.sizeOf2
  v2 := Tryz.zeroValue2
  t3 := Tryz.underlying3
  a3 := Tryz.isAgg3
  z3 := Tryz.sizeOf3
  v3 := Tryz.zeroValue3
  t4 := Tryz.underlying4
  a4 := Tryz.isAgg4
  z4 := Tryz.sizeOf4
  v4 := Tryz.zeroValue4
  t5 := Tryz.underlying5
  a5 := Tryz.isAgg5
  z5 := Tryz.sizeOf5
  v5 := Tryz.zeroValue5
  t9 := Tryz.underlying9
  a9 := Tryz.isAgg9
  z9 := Tryz.sizeOf9
  v9 := Tryz.zeroValue9
  t20 := Tryz.underlying20
  a20 := Tryz.isAgg20
  z20 := Tryz.sizeOf20
  v20 := Tryz.zeroValue20
  t21 := Tryz.underlying21
  a21 := Tryz.isAgg21
  z21 := Tryz.sizeOf21
  v21 := Tryz.zeroValue21
  t37 := Tryz.underlying77
  a37 := Tryz.isAgg77
  z37 := Tryz.sizeOf77
  v37 := Tryz.zeroValue77
  t46 := Tryz.underlying211
  a46 := Tryz.isAgg211
  z46 := Tryz.sizeOf211
  v46 := Tryz.zeroValue211
  t51 := Tryz.underlying214
  a51 := Tryz.isAgg214
  z51 := Tryz.sizeOf214
  v51 := Tryz.zeroValue214
  t53 := Tryz.underlying23
  a53 := Tryz.isAgg23
  z53 := Tryz.sizeOf23
  v53 := Tryz.zeroValue23
  t75 := Tryz.underlying81
  a75 := Tryz.isAgg81
  z75 := Tryz.sizeOf81
  v75 := Tryz.zeroValue81
  t76 := Tryz.underlying82
  a76 := Tryz.isAgg82
  z76 := Tryz.sizeOf82
  v76 := Tryz.zeroValue82
  t85 := Tryz.underlying187
  a85 := Tryz.isAgg187
  z85 := Tryz.sizeOf187
  v85 := Tryz.zeroValue187
  t127 := Tryz.underlying131
  a127 := Tryz.isAgg131
  z127 := Tryz.sizeOf131
  v127 := Tryz.zeroValue131
  t143 := Tryz.underlying242
  a143 := Tryz.isAgg242
  z143 := Tryz.sizeOf242
  v143 := Tryz.zeroValue242
  t145 := Tryz.underlying244
  a145 := Tryz.isAgg244
  z145 := Tryz.sizeOf244
  v145 := Tryz.zeroValue244
  t167 := Tryz.underlying186
  a167 := Tryz.isAgg186
  z167 := Tryz.sizeOf186
  v167 := Tryz.zeroValue186
  t168 := Tryz.underlying189
  a168 := Tryz.isAgg189
  z168 := Tryz.sizeOf189
  v168 := Tryz.zeroValue189
  t171 := Tryz.underlying179
  a171 := Tryz.isAgg179
  z171 := Tryz.sizeOf179
  v171 := Tryz.zeroValue179
  t173 := Tryz.underlying182
  a173 := Tryz.isAgg182
  z173 := Tryz.sizeOf182
  v173 := Tryz.zeroValue182
  t175 := Tryz.underlying159
  a175 := Tryz.isAgg159
  z175 := Tryz.sizeOf159
  v175 := Tryz.zeroValue159
  t210 := Tryz.underlying225
  a210 := Tryz.isAgg225
  z210 := Tryz.sizeOf225
  v210 := Tryz.zeroValue225
  t212 := Tryz.underlying213
  a212 := Tryz.isAgg213
  z212 := Tryz.sizeOf213
  v212 := Tryz.zeroValue213
  t213 := Tryz.underlying215
  a213 := Tryz.isAgg215
  z213 := Tryz.sizeOf215
  t232 := Tryz.underlying248
  a232 := Tryz.isAgg248
  z232 := Tryz.sizeOf248
  v232 := Tryz.zeroValue248
  t233 := Tryz.underlying249
  a233 := Tryz.isAgg249
  z233 := Tryz.sizeOf249
  v233 := Tryz.zeroValue249
  g15 := by kernel_rfl
  g16 := by kernel_rfl
  g17 := by kernel_rfl
  g18 := by kernel_rfl
  g19 := by kernel_rfl
  t80 := Tryz.underlying88
  a80 := Tryz.isAgg88
  z80 := Tryz.sizeOf88
  v80 := Tryz.zeroValue88
  i0 := by kernel_rfl
  i2 := by kernel_rfl
  i3 := by kernel_rfl
  i4 := by kernel_rfl
  i5 := by kernel_rfl
  i9 := by kernel_rfl
  i20 := by kernel_rfl
  i21 := by kernel_rfl
  i37 := by kernel_rfl
  i46 := by kernel_rfl
  i51 := by kernel_rfl
  i53 := by kernel_rfl
  i75 := by kernel_rfl
  i76 := by kernel_rfl
  i80 := by kernel_rfl
  i85 := by kernel_rfl
  i127 := by kernel_rfl
  i143 := by kernel_rfl
  i145 := by kernel_rfl
  i167 := by kernel_rfl
  i168 := by kernel_rfl
  i171 := by kernel_rfl
  i173 := by kernel_rfl
  i175 := by kernel_rfl
  i210 := by kernel_rfl
  i212 := by kernel_rfl
  i232 := by kernel_rfl
  i233 := by kernel_rfl
  m15 := by kernel_rfl
  m16 := by kernel_rfl
  m17 := by kernel_rfl
  m18 := by kernel_rfl
  m19 := by kernel_rfl
  c0 := by kernel_rfl
  c2 := by kernel_rfl
  c3 := by kernel_rfl
  c4 := by kernel_rfl
  c5 := by kernel_rfl
  c9 := by kernel_rfl
  c20 := by kernel_rfl
  c21 := by kernel_rfl
  c37 := by kernel_rfl
  c46 := by kernel_rfl
  c51 := by kernel_rfl
  c53 := by kernel_rfl
  c75 := by kernel_rfl
  c76 := by kernel_rfl
  c80 := by kernel_rfl
  c85 := by kernel_rfl
  c127 := by kernel_rfl
  c143 := by kernel_rfl
  c145 := by kernel_rfl
  c167 := by kernel_rfl
  c168 := by kernel_rfl
  c171 := by kernel_rfl
  c173 := by kernel_rfl
  c175 := by kernel_rfl
  c210 := by kernel_rfl
  c212 := by kernel_rfl
  c213 := by kernel_rfl
  c232 := by kernel_rfl
  c233 := by kernel_rfl }
def Tryz.lays146_ren : Go.Shelf.Ren := ⟨fun | 146 => 74 | 221 => 97 | 268 => 117 | 138 => 118 | 143 => 119 | 195 => 142 | 197 => 143 | 218 => 144 | 219 => 112 | 260 => 157 | 217 => 133 | 225 => 134 | 224 => 135 | 267 => 136 | 266 => 153 | 314 => 154 | n => n, fun | 9 => 9 | 31 => 67 | 3 => 3 | 4 => 4 | 0 => 0 | 105 => 219 | 21 => 21 | 5 => 5 | 46 => 211 | 119 => 250 | 139 => 253 | 138 => 252 | 146 => 239 | 51 => 214 | n => n, fun | 1 => 1 | 3 => 7 | 4 => 8 | n => n⟩
theorem Tryz.lays146 : Go.Proofs.LaysM.n146 Tryz.prog Tryz.lays146_ren := {
  mixed := by kernel_rfl
  f138 := Tryz.func118.trans (congrArg some (by kernel_rfl))
  f143 := Tryz.func119.trans (congrArg some (by kernel_rfl))
  f146 := Tryz.func74.trans (congrArg some (by kernel_rfl))
  f195 := Tryz.func142.trans (congrArg some (by kernel_rfl))
  f197 := Tryz.func143.trans (congrArg some (by kernel_rfl))
  f217 := Tryz.func133.trans (congrArg some (by kernel_rfl))
  f218 := Tryz.func144.trans (congrArg some (by kernel_rfl))
  f219 := Tryz.func112.trans (congrArg some (by kernel_rfl))
  f221 := Tryz.func97.trans (congrArg some (by kernel_rfl))
  f224 := Tryz.func135.trans (congrArg some (by kernel_rfl))
  f225 := Tryz.func134.trans (congrArg some (by kernel_rfl))
  f260 := Tryz.func157.trans (congrArg some (by kernel_rfl))
  f266 := Tryz.func153.trans (congrArg some (by kernel_rfl))
  f267 := Tryz.func136.trans (congrArg some (by kernel_rfl))
  f268 := Tryz.func117.trans (congrArg some (by kernel_rfl))
  f314 := Tryz.func154.trans (congrArg some (by kernel_rfl))
  t0 := Tryz.underlying0
  a0 := Tryz.isAgg0
  z0 := Tryz.sizeOf0
  v0 := Tryz.zeroValue0
  t3 := Tryz.underlying3
  a3 := Tryz.isAgg3
  z3 := Tryz.sizeOf3
  v3 := Tryz.zeroValue3
  t4 := Tryz.underlying4
  a4 := Tryz.isAgg4
  z4 := Tryz.sizeOf4
  v4 := Tryz.zeroValue4
  t5 := Tryz.underlying5
  a5 := Tryz.isAgg5
  z5 := Tryz.sizeOf5
  v5 := Tryz.zeroValue5
  t9 := Tryz.underlying9
  a9 := Tryz.isAgg9
  z9 := Tryz.sizeOf9
  v9 := Tryz.zeroValue9
  t21 := Tryz.underlying21
  a21 := Tryz.isAgg21
  z21 := Tryz.sizeOf21
  v21 := Tryz.zeroValue21
  t31 := Tryz.underlying67
  a31 := Tryz.isAgg67
  z31 := Tryz.sizeOf67
  v31 := Tryz.zeroValue67
  t46 := Tryz.underlying211
  a46 := Tryz.isAgg211
  z46 := Tryz.sizeOf211
  v46 := Tryz.zeroValue211
  t51 := Tryz.underlying214
  a51 := Tryz.isAgg214
  z51 := Tryz.sizeOf214
  v51 := Tryz.zeroValue214
  t105 := Tryz.underlying219
  a105 := Tryz.isAgg219
  z105 := Tryz.sizeOf219
  v105 := Tryz.zeroValue219
  t119 := Tryz.underlying250
  a119 := Tryz.isAgg250
  z119 := Tryz.sizeOf250
  t138 := Tryz.underlying252
  a138 := Tryz.isAgg252
  z138 := Tryz.sizeOf252
  v138 := Tryz.zeroValue252
  t139 := Tryz.underlying253
  a139 := Tryz.isAgg253
  z139 := Tryz.sizeOf253
  v139 := Tryz.zeroValue253
  t146 := Tryz.underlying239
  a146 := Tryz.isAgg239
  z146 := Tryz.sizeOf239
  v146 := Tryz.zeroValue239
  g1 := by kernel_rfl
  g3 := by kernel_rfl
  g4 := by kernel_rfl
  i0 := by kernel_rfl
  i3 := by kernel_rfl
  i4 := by kernel_rfl
  i5 := by kernel_rfl
  i9 := by kernel_rfl
  i21 := by kernel_rfl
  i31 := by kernel_rfl
  i46 := by kernel_rfl
  i51 := by kernel_rfl
  i105 := by kernel_rfl
  i138 := by kernel_rfl
  i139 := by kernel_rfl
  i146 := by kernel_rfl
  m1 := by kernel_rfl
  s1_3 := fun w h => Go.Proofs.cell_of_shapedOpen_int (zero := #[.int .i64 0]) (t := 3) h (of_decide_eq_true (by kernel_rfl)) (by kernel_rfl) rfl (by kernel_rfl) (by kernel_rfl) Tryz.underlying3
  m3 := by kernel_rfl
  m4 := by kernel_rfl }
def Tryz.lays169_ren : Go.Shelf.Ren := ⟨fun | 169 => 43 | n => n, fun | 70 => 76 | 9 => 9 | 0 => 0 | 72 => 79 | 37 => 77 | 127 => 131 | 3 => 3 | 5 => 5 | n => n, fun | n => n⟩
theorem Tryz.lays169 : Go.Proofs.Lays.n169 Tryz.prog Tryz.lays169_ren := {
  mixed := by kernel_rfl
  f169 := Tryz.func43.trans (congrArg some (by kernel_rfl))
  t0 := Tryz.underlying0
  a0 := Tryz.isAgg0
  z0 := Tryz.sizeOf0
  v0 := Tryz.zeroValue0
  t3 := Tryz.underlying3
  a3 := Tryz.isAgg3
  z3 := Tryz.sizeOf3
  v3 := Tryz.zeroValue3
  t9 := Tryz.underlying9
  a9 := Tryz.isAgg9
  z9 := Tryz.sizeOf9
  v9 := Tryz.zeroValue9
  t37 := Tryz.underlying77
  a37 := Tryz.isAgg77
  z37 := Tryz.sizeOf77
  v37 := Tryz.zeroValue77
  t70 := Tryz.underlying76
  a70 := Tryz.isAgg76
  z70 := Tryz.sizeOf76
  v70 := Tryz.zeroValue76
  t72 := Tryz.underlying79
  a72 := Tryz.isAgg79
  z72 := Tryz.sizeOf79
  v72 := Tryz.zeroValue79
  t127 := Tryz.underlying131
  a127 := Tryz.isAgg131
  z127 := Tryz.sizeOf131
  v127 := Tryz.zeroValue131 }
def Tryz.lays156_ren : Go.Shelf.Ren := ⟨fun | 156 => 40 | 165 => 83 | 166 => 39 | 169 => 43 | 240 => 82 | 241 => 105 | 276 => 104 | 277 => 127 | n => n, fun | 31 => 67 | 9 => 9 | 3 => 3 | 4 => 4 | 0 => 0 | 20 => 20 | 72 => 79 | 76 => 82 | 70 => 76 | 37 => 77 | 75 => 81 | 127 => 131 | 164 => 162 | 5 => 5 | 80 => 88 | n => n, fun | n => n⟩
theorem Tryz.lays156 : Go.Proofs.Lays.n156 Tryz.prog Tryz.lays156_ren := {
  mixed := by kernel_rfl
  f156 := Tryz.func40.trans (congrArg some (by kernel_rfl))
  f165 := Tryz.func83.trans (congrArg some (by kernel_rfl))
  f166 := Tryz.func39.trans (congrArg some (by kernel_rfl))
  f169 := Tryz.func43.trans (congrArg some (by kernel_rfl))
  f240 := Tryz.func82.trans (congrArg some (by kernel_rfl))
  f241 := Tryz.func105.trans (congrArg some (by kernel_rfl))
  f276 := Tryz.func104.trans (congrArg some (by kernel_rfl))
  f277 := Tryz.func127.trans (congrArg some (by kernel_rfl))
  t0 := Tryz.underlying0
  a0 := Tryz.isAgg0
  z0 := Tryz.sizeOf0
  v0 := Tryz.zeroValue0
  t3 := Tryz.underlying3
  a3 := Tryz.isAgg3
  z3 := Tryz.sizeOf3
  v3 := Tryz.zeroValue3
  t4 := Tryz.underlying4
  a4 := Tryz.isAgg4
  z4 := Tryz.sizeOf4
  v4 := Tryz.zeroValue4
  t9 := Tryz.underlying9
  a9 := Tryz.isAgg9
  z9 := Tryz.sizeOf9
  v9 := Tryz.zeroValue9
  t20 := Tryz.underlying20
  a20 := Tryz.isAgg20
  z20 := Tryz.sizeOf20
  v20 := Tryz.zeroValue20
  t31 := Tryz.underlying67
  a31 := Tryz.isAgg67
  z31 := Tryz.sizeOf67
  v31 := Tryz.zeroValue67
  t37 := Tryz.underlying77
  a37 := Tryz.isAgg77
  z37 := Tryz.sizeOf77
  v37 := Tryz.zeroValue77
  t70 := Tryz.underlying76
  a70 := Tryz.isAgg76
  z70 := Tryz.sizeOf76
  v70 := Tryz.zeroValue76
  t72 := Tryz.underlying79
  a72 := Tryz.isAgg79
  z72 := Tryz.sizeOf79
  v72 := Tryz.zeroValue79
  t75 := Tryz.underlying81
  a75 := Tryz.isAgg81
  z75 := Tryz.sizeOf81
  v75 := Tryz.zeroValue81
  t76 := Tryz.underlying82
  a76 := Tryz.isAgg82
  z76 := Tryz.sizeOf82
  v76 := Tryz.zeroValue82
  t127 := Tryz.underlying131
  a127 := Tryz.isAgg131
  z127 := Tryz.sizeOf131
  v127 := Tryz.zeroValue131
  t164 := Tryz.underlying162
  a164 := Tryz.isAgg162
  z164 := Tryz.sizeOf162
  v164 := Tryz.zeroValue162 }
def Tryz.lays283_ren : Go.Shelf.Ren := ⟨fun | 283 => 113 | n => n, fun | 3 => 3 | 9 => 9 | 4 => 4 | n => n, fun | n => n⟩
theorem Tryz.lays283 : Go.Proofs.Lays.n283 Tryz.prog Tryz.lays283_ren := {
  mixed := by kernel_rfl
  f283 := Tryz.func113.trans (congrArg some (by kernel_rfl))
  t3 := Tryz.underlying3
  a3 := Tryz.isAgg3
  z3 := Tryz.sizeOf3
  v3 := Tryz.zeroValue3
  t4 := Tryz.underlying4
  a4 := Tryz.isAgg4
  z4 := Tryz.sizeOf4
  v4 := Tryz.zeroValue4
  t9 := Tryz.underlying9
  a9 := Tryz.isAgg9
  z9 := Tryz.sizeOf9
  v9 := Tryz.zeroValue9 }
def Tryz.lays284_ren : Go.Shelf.Ren := ⟨fun | 284 => 114 | 129 => 138 | 317 => 137 | 318 => 139 | n => n, fun | 53 => 23 | 3 => 3 | 212 => 213 | 0 => 0 | 4 => 4 | 46 => 211 | 5 => 5 | 9 => 9 | n => n, fun | 17 => 2 | n => n⟩
theorem Tryz.lays284 : Go.Proofs.LaysM.n284 Tryz.prog Tryz.lays284_ren := {
  mixed := by kernel_rfl
  f129 := Tryz.func138.trans (congrArg some (by kernel_rfl))
  f284 := Tryz.func114.trans (congrArg some (by kernel_rfl))
  f317 := Tryz.func137.trans (congrArg some (by kernel_rfl))
  f318 := Tryz.func139.trans (congrArg some (by kernel_rfl))
  t0 := Tryz.underlying0
  a0 := Tryz.isAgg0
  z0 := Tryz.sizeOf0
  v0 := Tryz.zeroValue0
  t3 := Tryz.underlying3
  a3 := Tryz.isAgg3
  z3 := Tryz.sizeOf3
  v3 := Tryz.zeroValue3
  t4 := Tryz.underlying4
  a4 := Tryz.isAgg4
  z4 := Tryz.sizeOf4
  v4 := Tryz.zeroValue4
  t5 := Tryz.underlying5
  a5 := Tryz.isAgg5
  z5 := Tryz.sizeOf5
  v5 := Tryz.zeroValue5
  t9 := Tryz.underlying9
  a9 := Tryz.isAgg9
  z9 := Tryz.sizeOf9
  v9 := Tryz.zeroValue9
  t46 := Tryz.underlying211
  a46 := Tryz.isAgg211
  z46 := Tryz.sizeOf211
  v46 := Tryz.zeroValue211
  t53 := Tryz.underlying23
  a53 := Tryz.isAgg23
  z53 := Tryz.sizeOf23
  v53 := Tryz.zeroValue23
  t212 := Tryz.underlying213
  a212 := Tryz.isAgg213
  z212 := Tryz.sizeOf213
  v212 := Tryz.zeroValue213
  g17 := by kernel_rfl
  i0 := by kernel_rfl
  i3 := by kernel_rfl
  i4 := by kernel_rfl
  i5 := by kernel_rfl
  i9 := by kernel_rfl
  i46 := by kernel_rfl
  i53 := by kernel_rfl
  i212 := by kernel_rfl
  m17 := by kernel_rfl }
def Tryz.lays285_ren : Go.Shelf.Ren := ⟨fun | 285 => 115 | n => n, fun | 37 => 77 | 53 => 23 | 3 => 3 | 4 => 4 | 51 => 214 | 9 => 9 | 5 => 5 | 0 => 0 | n => n, fun | n => n⟩
theorem Tryz.lays285 : Go.Proofs.Lays.n285 Tryz.prog Tryz.lays285_ren := {
  mixed := by kernel_rfl
  f285 := Tryz.func115.trans (congrArg some (by kernel_rfl))
  t0 := Tryz.underlying0
  a0 := Tryz.isAgg0
  z0 := Tryz.sizeOf0
  v0 := Tryz.zeroValue0
  t3 := Tryz.underlying3
  a3 := Tryz.isAgg3
  z3 := Tryz.sizeOf3
  v3 := Tryz.zeroValue3
  t4 := Tryz.underlying4
  a4 := Tryz.isAgg4
  z4 := Tryz.sizeOf4
  v4 := Tryz.zeroValue4
  t5 := Tryz.underlying5
  a5 := Tryz.isAgg5
  z5 := Tryz.sizeOf5
  v5 := Tryz.zeroValue5
  t9 := Tryz.underlying9
  a9 := Tryz.isAgg9
  z9 := Tryz.sizeOf9
  v9 := Tryz.zeroValue9
  t37 := Tryz.underlying77
  a37 := Tryz.isAgg77
  z37 := Tryz.sizeOf77
  v37 := Tryz.zeroValue77
  t51 := Tryz.underlying214
  a51 := Tryz.isAgg214
  z51 := Tryz.sizeOf214
  v51 := Tryz.zeroValue214
  t53 := Tryz.underlying23
  a53 := Tryz.isAgg23
  z53 := Tryz.sizeOf23
  v53 := Tryz.zeroValue23 }
def Tryz.lays219_ren : Go.Shelf.Ren := ⟨fun | 219 => 112 | 217 => 133 | 225 => 134 | 224 => 135 | 267 => 136 | 266 => 153 | 314 => 154 | n => n, fun | 9 => 9 | 3 => 3 | 4 => 4 | 5 => 5 | 46 => 211 | 146 => 239 | 51 => 214 | n => n, fun | 1 => 1 | n => n⟩
theorem Tryz.lays219 : Go.Proofs.Lays.n219 Tryz.prog Tryz.lays219_ren := {
  mixed := by kernel_rfl
  f217 := Tryz.func133.trans (congrArg some (by kernel_rfl))
  f219 := Tryz.func112.trans (congrArg some (by kernel_rfl))
  f224 := Tryz.func135.trans (congrArg some (by kernel_rfl))
  f225 := Tryz.func134.trans (congrArg some (by kernel_rfl))
  f266 := Tryz.func153.trans (congrArg some (by kernel_rfl))
  f267 := Tryz.func136.trans (congrArg some (by kernel_rfl))
  f314 := Tryz.func154.trans (congrArg some (by kernel_rfl))
  t3 := Tryz.underlying3
  a3 := Tryz.isAgg3
  z3 := Tryz.sizeOf3
  v3 := Tryz.zeroValue3
  t4 := Tryz.underlying4
  a4 := Tryz.isAgg4
  z4 := Tryz.sizeOf4
  v4 := Tryz.zeroValue4
  t5 := Tryz.underlying5
  a5 := Tryz.isAgg5
  z5 := Tryz.sizeOf5
  v5 := Tryz.zeroValue5
  t9 := Tryz.underlying9
  a9 := Tryz.isAgg9
  z9 := Tryz.sizeOf9
  v9 := Tryz.zeroValue9
  t46 := Tryz.underlying211
  a46 := Tryz.isAgg211
  z46 := Tryz.sizeOf211
  v46 := Tryz.zeroValue211
  t51 := Tryz.underlying214
  a51 := Tryz.isAgg214
  z51 := Tryz.sizeOf214
  v51 := Tryz.zeroValue214
  t146 := Tryz.underlying239
  a146 := Tryz.isAgg239
  z146 := Tryz.sizeOf239
  v146 := Tryz.zeroValue239
  g1 := by kernel_rfl }
def Tryz.laysPu_ren : Go.Shelf.Ren := ⟨fun | 14 => 101 | 16 => 121 | 17 => 103 | 19 => 146 | 20 => 147 | 21 => 123 | 22 => 124 | 23 => 125 | 24 => 126 | 25 => 148 | 27 => 29 | 26 => 149 | 28 => 72 | 29 => 95 | 30 => 113 | 31 => 114 | 32 => 115 | 33 => 116 | 35 => 138 | 34 => 137 | 36 => 139 | 37 => 140 | 38 => 141 | 39 => 155 | 40 => 156 | n => n, fun | 9 => 9 | 3 => 3 | 22 => 23 | 24 => 81 | 25 => 159 | 4 => 4 | 34 => 186 | 5 => 5 | 36 => 211 | 37 => 77 | 0 => 0 | 39 => 189 | 21 => 21 | 44 => 225 | 47 => 131 | 50 => 244 | 48 => 242 | 2 => 2 | 52 => 179 | 55 => 182 | 59 => 213 | 60 => 214 | 20 => 20 | 61 => 215 | 65 => 248 | 66 => 249 | 67 => 88 | n => n, fun | 0 => 3 | 1 => 4 | 2 => 2 | 3 => 5 | 4 => 6 | n => n⟩
theorem Tryz.laysPu : Go.Proofs.LaysPu.n14 Tryz.prog Tryz.laysPu_ren := {
  mixed := by kernel_rfl
  f14 := Tryz.func101.trans (congrArg some (by kernel_rfl))
  f16 := Tryz.func121.trans (congrArg some (by kernel_rfl))
  f17 := Tryz.func103.trans (congrArg some (by kernel_rfl))
  f19 := Tryz.func146.trans (congrArg some (by kernel_rfl))
  f20 := Tryz.func147.trans (congrArg some (by kernel_rfl))
  f21 := Tryz.func123.trans (congrArg some (by kernel_rfl))
  f22 := Tryz.func124.trans (congrArg some (by kernel_rfl))
  f23 := Tryz.func125.trans (congrArg some (by kernel_rfl))
  f24 := Tryz.func126.trans (congrArg some (by kernel_rfl))
  f25 := Tryz.func148.trans (congrArg some (by kernel_rfl))
  f26 := Tryz.func149.trans (congrArg some (by kernel_rfl))
  f27 := Tryz.func29.trans (congrArg some (by kernel_rfl))
  f28 := Tryz.func72.trans (congrArg some (by kernel_rfl))
  f29 := Tryz.func95.trans (congrArg some (by kernel_rfl))
  f30 := Tryz.func113.trans (congrArg some (by kernel_rfl))
  f31 := Tryz.func114.trans (congrArg some (by kernel_rfl))
  f32 := Tryz.func115.trans (congrArg some (by kernel_rfl))
  f33 := Tryz.func116.trans (congrArg some (by kernel_rfl))
  f34 := Tryz.func137.trans (congrArg some (by kernel_rfl))
  f35 := Tryz.func138.trans (congrArg some (by kernel_rfl))
  f36 := Tryz.func139.trans (congrArg some (by kernel_rfl))
  f37 := Tryz.func140.trans (congrArg some (by kernel_rfl))
  f38 := Tryz.func141.trans (congrArg some (by kernel_rfl))
  f39 := Tryz.func155.trans (congrArg some (by kernel_rfl))
  f40 := Tryz.func156.trans (congrArg some (by kernel_rfl))
  t0 := Tryz.underlying0
  a0 := Tryz.isAgg0
  z0 := Tryz.sizeOf0
  v0 := Tryz.zeroValue0
  i0 := by kernel_rfl
  t2 := Tryz.underlying2
  a2 := Tryz.isAgg2
  z2 := Tryz.sizeOf2
  v2 := Tryz.zeroValue2
  i2 := by kernel_rfl
  t3 := Tryz.underlying3
  a3 := Tryz.isAgg3
  z3 := Tryz.sizeOf3
  v3 := Tryz.zeroValue3
  i3 := by kernel_rfl
  t4 := Tryz.underlying4
  a4 := Tryz.isAgg4
  z4 := Tryz.sizeOf4
  v4 := Tryz.zeroValue4
  i4 := by kernel_rfl
  t5 := Tryz.underlying5
  a5 := Tryz.isAgg5
  z5 := Tryz.sizeOf5
  v5 := Tryz.zeroValue5
  i5 := by kernel_rfl
  t9 := Tryz.underlying9
  a9 := Tryz.isAgg9
  z9 := Tryz.sizeOf9
  v9 := Tryz.zeroValue9
  i9 := by kernel_rfl
  t20 := Tryz.underlying20
  a20 := Tryz.isAgg20
  z20 := Tryz.sizeOf20
  v20 := Tryz.zeroValue20
  i20 := by kernel_rfl
  t21 := Tryz.underlying21
  a21 := Tryz.isAgg21
  z21 := Tryz.sizeOf21
  v21 := Tryz.zeroValue21
  i21 := by kernel_rfl
  t22 := Tryz.underlying23
  a22 := Tryz.isAgg23
  z22 := Tryz.sizeOf23
  v22 := Tryz.zeroValue23
  i22 := by kernel_rfl
  t24 := Tryz.underlying81
  a24 := Tryz.isAgg81
  z24 := Tryz.sizeOf81
  v24 := Tryz.zeroValue81
  i24 := by kernel_rfl
  t25 := Tryz.underlying159
  a25 := Tryz.isAgg159
  z25 := Tryz.sizeOf159
  v25 := Tryz.zeroValue159
  i25 := by kernel_rfl
  t34 := Tryz.underlying186
  a34 := Tryz.isAgg186
  z34 := Tryz.sizeOf186
  v34 := Tryz.zeroValue186
  i34 := by kernel_rfl
  c34 := by kernel_rfl
  t36 := Tryz.underlying211
  a36 := Tryz.isAgg211
  z36 := Tryz.sizeOf211
  v36 := Tryz.zeroValue211
  i36 := by kernel_rfl
  t37 := Tryz.underlying77
  a37 := Tryz.isAgg77
  z37 := Tryz.sizeOf77
  v37 := Tryz.zeroValue77
  i37 := by kernel_rfl
  t39 := Tryz.underlying189
  a39 := Tryz.isAgg189
  z39 := Tryz.sizeOf189
  v39 := Tryz.zeroValue189
  i39 := by kernel_rfl
  t44 := Tryz.underlying225
  a44 := Tryz.isAgg225
  z44 := Tryz.sizeOf225
  v44 := Tryz.zeroValue225
  i44 := by kernel_rfl
  t47 := Tryz.underlying131
  a47 := Tryz.isAgg131
  z47 := Tryz.sizeOf131
  v47 := Tryz.zeroValue131
  i47 := by kernel_rfl
  t48 := Tryz.underlying242
  a48 := Tryz.isAgg242
  z48 := Tryz.sizeOf242
  v48 := Tryz.zeroValue242
  i48 := by kernel_rfl
  t50 := Tryz.underlying244
  a50 := Tryz.isAgg244
  z50 := Tryz.sizeOf244
  v50 := Tryz.zeroValue244
  i50 := by kernel_rfl
  t52 := Tryz.underlying179
  a52 := Tryz.isAgg179
  z52 := Tryz.sizeOf179
  v52 := Tryz.zeroValue179
  i52 := by kernel_rfl
  t55 := Tryz.underlying182
  a55 := Tryz.isAgg182
  z55 := Tryz.sizeOf182
  v55 := Tryz.zeroValue182
  i55 := by kernel_rfl
  t59 := Tryz.underlying213
  a59 := Tryz.isAgg213
  z59 := Tryz.sizeOf213
  v59 := Tryz.zeroValue213
  i59 := by kernel_rfl
  t60 := Tryz.underlying214
  a60 := Tryz.isAgg214
  z60 := Tryz.sizeOf214
  v60 := Tryz.zeroValue214
  i60 := by kernel_rfl
  t61 := Tryz.underlying215
  a61 := Tryz.isAgg215
  z61 := Tryz.sizeOf215
  t65 := Tryz.underlying248
  a65 := Tryz.isAgg248
  z65 := Tryz.sizeOf248
  v65 := Tryz.zeroValue248
  i65 := by kernel_rfl
  t66 := Tryz.underlying249
  a66 := Tryz.isAgg249
  z66 := Tryz.sizeOf249
  v66 := Tryz.zeroValue249
  i66 := by kernel_rfl
  t67 := Tryz.underlying88
  a67 := Tryz.isAgg88
  z67 := Tryz.sizeOf88
  v67 := Tryz.zeroValue88
  i67 := by kernel_rfl
  g0 := by kernel_rfl
  m0 := by kernel_rfl
  g1 := by kernel_rfl
  m1 := by kernel_rfl
  g2 := by kernel_rfl
  m2 := by kernel_rfl
  g3 := by kernel_rfl
  m3 := by kernel_rfl
  g4 := by kernel_rfl
  m4 := by kernel_rfl }
end Go.Proofs
/- A strings.Builder that is written and read, at this program. -/
namespace Go.Proofs.YtmmaniolaljjlaaGreatDoor
open Go.RowKit Go.Shelf
set_option linter.unusedVariables false

theorem cells_newR (w : World) (g : Nat) (hg : w.heap.size = g) (cs : Array Value) (t : TypeId) : ∀ j u, cs.toList[j]? = some u → (w.alloc (.cells cs t)).cell? ((⟨g, 0, none⟩ : Addr).add j) = some u := by
  intro j u h
  subst hg
  have e : (⟨w.heap.size, 0, none⟩ : Addr).add j = ⟨w.heap.size, j, none⟩ := by unfold Addr.add; split <;> simp_all
  rw [e]
  have hh : (w.alloc (.cells cs t)).heap[w.heap.size]? = some (.cells cs t (0, 0)) := heap_alloc_new _ _
  rw [cell_of hh j]
  simpa using h
theorem bX : Builder.Extra Tryz.prog Tryz.lays169_ren where
  sizeBuilder := by kernel_rfl
  liesBuilder := by kernel_rfl
  t5 := Tryz.underlying5
  a5 := Tryz.isAgg5
  z5 := Tryz.sizeOf5
  v5 := Tryz.zeroValue5
  infoByte := by kernel_rfl
  cellsByte := by kernel_rfl
  sizeByte := by kernel_rfl
  neB5 := by decide
set_option maxRecDepth 100000 in
theorem cc_used (b : Nat) (w : World) (h0 : w.cell? ⟨b, 0, none⟩ = some (.pointer (some ⟨b, 0, none⟩))) :
    Calls Tryz.prog 82 #[.pointer (some ⟨b, 0, none⟩)] w fun e w' => e = .returned (.tuple #[]) ∧ w' = w := by
  obtain ⟨j, hj, _⟩ := Option.map_eq_some_iff.1 bX.sizeBuilder
  have hsame : ∀ W, (binOp .neq 76 (.pointer (some ⟨b, 0, none⟩)) (.pointer (some ⟨b, 0, none⟩))).run Tryz.prog W = .ok (.bool false) W := fun W => Lib.run_neq_ptr_same W _ Tryz.underlying76 hj
  go_enter Tryz.func82, Tryz.ntmps82
  go_wp2
  go_end0
  exact ⟨rfl, rfl⟩
set_option maxRecDepth 100000 in
theorem cc_fresh (b : Nat) (w : World) (h0 : w.cell? ⟨b, 0, none⟩ = some (.pointer none)) (hsh : w.shape? b = some (79, 2)) (hfz : w.frozen? ⟨b, 0, none⟩ = false) :
    Calls Tryz.prog 82 #[.pointer (some ⟨b, 0, none⟩)] w fun e w' => e = .returned (.tuple #[]) ∧ w' = w.setCell ⟨b, 0, none⟩ (.pointer (some ⟨b, 0, none⟩)) := by
  obtain ⟨j, hj, hjs⟩ := Option.map_eq_some_iff.1 bX.sizeBuilder
  have t1 := Lib.run_to_unsafe (P := Tryz.prog) w ⟨b, 0, none⟩ Tryz.underlying76 Tryz.underlying162 hj (by rw [hjs]; decide) hsh (Nat.zero_lt_succ 1)
  have hsame : ∀ W, (binOp .neq 76 (.pointer (some ⟨b, 0, none⟩)) (.pointer (some ⟨b, 0, none⟩))).run Tryz.prog W = .ok (.bool false) W := fun W => Lib.run_neq_ptr_same W _ Tryz.underlying76 hj
  have t3 := Lib.run_from_unsafe (P := Tryz.prog) w ⟨b, 0, none⟩ Tryz.underlying162 Tryz.underlying76 hj hsh bX.liesBuilder
  go_enter Tryz.func82, Tryz.ntmps82
  go_wp2
  rw [run_callFunc_extern Tryz.func104 (by kernel_rfl) (by kernel_rfl) (by kernel_rfl) (e := Extern.AbiNoEscape.same) (by kernel_rfl), Lib.run_noEscape]
  simp only [Result.andThen]
  rw [Oper.upon_value]
  go_wp2
  go_end0
  exact ⟨rfl, rfl⟩
theorem cc_any (B b : Nat) (bs : List Value) (w : World) (h : Lib.IsBuilderF 79 5 B b bs w) :
    Calls Tryz.prog 82 #[.pointer (some ⟨b, 0, none⟩)] w fun e w' => e = .returned (.tuple #[]) ∧ Lib.BuilderAtF 79 5 B b (.pointer (some ⟨b, 0, none⟩)) bs w' ∧ Below B w w' ∧ Lib.OthersKept 5 (some b) w w' := by
  rcases h with h | h
  · refine (cc_fresh b w h.cell0 h.shape h.frozen0).mono ?_
    rintro e w' ⟨rfl, rfl⟩
    exact ⟨rfl, h.used _, (Below.refl B w).setCell (p := ⟨b, 0, none⟩) h.1 _, (Lib.OthersKept.refl _ _ w).setCell ⟨b, 0, none⟩ rfl _⟩
  · refine (cc_used b w h.cell0).mono ?_
    rintro e w' ⟨rfl, rfl⟩
    exact ⟨rfl, h, Below.refl B _, Lib.OthersKept.refl _ _ _⟩
set_option maxHeartbeats 2000000 in
set_option maxRecDepth 100000 in
theorem ws_any (B b : Nat) (bs : List Value) (s : ByteArray) (w : World) (h : Lib.IsBuilderF 79 5 B b bs w) (hlen : bs.length + s.size ≤ 140737488355328) (hBw : B ≤ w.heap.size) :
    Calls Tryz.prog 39 #[.pointer (some ⟨b, 0, none⟩), .string s] w fun e w' => e = .returned (.tuple #[.int .i64 s.size, .nilIface]) ∧ Lib.IsBuilderF 79 5 B b (bs ++ Lib.strCells s) w' ∧ Below B w w' ∧ Lib.OthersKept 5 (some b) w w' := by
  obtain ⟨i0, hi, hz0, hz1, hz2⟩ := info_parts bX.infoByte
  go_enter Tryz.func39, Tryz.ntmps39
  go_wp2_with (go_at_call 82; refine (cc_any B b bs _ h).mono ?_; rintro e w1 ⟨rfl, h1, hb1, hk1⟩; refine Hid.out ?_)
  obtain ⟨hB, v, hbk, hown, hne⟩ := h1
  have c0 := cell_of hbk 0
  have c1 := cell_of hbk 1
  refine Lib.hid ?_
  go_wp2_with (at_builtin; refine Lib.wpList_append_own_stringF _ rfl _ _ 77 9 rfl B 5 i0 Tryz.underlying77 Tryz.underlying9 hi hz0 hz1 hz2 _ _ _ rfl hown s rfl ?c3 ?c4 ?c5 ?_)
  case c3 => unfold maxLen; omega
  case c4 => omega
  case c5 => have := hb1.size; omega
  intro v' w2 hown' hgrow _
  have hlt := lt_of hbk
  have hb2 : w2.heap[b]? = some (.cells #[.pointer (some ⟨b, 0, none⟩), v] 79 (0, 0)) := (hgrow.block b hlt (fun e => hne e.symm)).trans hbk
  have d0 := cell_of hb2 0
  have d1 := cell_of hb2 1
  have f1 := free_of hb2 1
  obtain ⟨ao, n', cap, rfl⟩ : ∃ ao n' cap, v' = .slice ao n' cap := by
    rcases hown'.2 with ⟨hv, _⟩ | ⟨g, cap, cur, fz, hv, _⟩
    · exact ⟨_, _, _, hv⟩
    · exact ⟨_, _, _, hv⟩
  go_wp2
  go_ret2
  refine ⟨rfl, Or.inr (Lib.BuilderAtF.put (T := 79) (e := 5) hB hb2 (bs' := bs ++ Lib.strCells s) (by simpa [Lib.strCells_length] using hown') (by decide)), ?_, (hk1.grown hgrow (Lib.ownsRowF_kind hown)).setCell ⟨b, 1, none⟩ rfl _⟩
  exact (hb1.grown hgrow (by have := hb1.size; omega) (fun k hk => (hown.lt k hk).1)).setCell (p := ⟨b, 1, none⟩) hB _
theorem bs_any (B b : Nat) (l : List UInt8) (w : World) (h : Lib.IsBuilderF 79 5 B b (Lib.byteCells l) w) (hBw : B ≤ w.heap.size) :
    Calls Tryz.prog 43 #[.pointer (some ⟨b, 0, none⟩)] w fun e w' => e = .returned (.string ⟨l.toArray⟩) ∧ Below B w w' ∧ Lib.OthersKept 5 (some b) w w' := by
  refine (Any.Builder_String_any_k Tryz.lays169 bX B b l w h hBw).mono ?_
  rintro e w' ⟨rfl, _, h2, h3⟩
  exact ⟨rfl, h2, h3⟩
set_option maxHeartbeats 2000000 in
set_option maxRecDepth 100000 in
theorem wb_any (B b : Nat) (bs : List Value) (c : Nat) (w : World) (h : Lib.IsBuilderF 79 5 B b bs w) (hlen : bs.length + 1 ≤ 140737488355328) (hBw : B ≤ w.heap.size) :
    Calls Tryz.prog 41 #[.pointer (some ⟨b, 0, none⟩), .int .u8 (c : Int)] w fun e w' => e = .returned .nilIface ∧ Lib.IsBuilderF 79 5 B b (bs ++ [.int .u8 (c : Int)]) w' ∧ Below B w w' := by
  obtain ⟨i0, hi, hz0, hz1, hz2⟩ := info_parts bX.infoByte
  go_enter Tryz.func41, Tryz.ntmps41
  go_wp2_with (go_at_call 82; refine (cc_any B b bs _ h).mono ?_; rintro e w1 ⟨rfl, h1, hb1, hk1⟩; refine Hid.out ?_)
  obtain ⟨hB, v, hbk, hown, hne⟩ := h1
  have c0 := cell_of hbk 0
  have c1 := cell_of hbk 1
  refine Lib.hid ?_
  obtain ⟨w2, hw2⟩ : ∃ w2, w2 = w1.alloc (.cells #[.int .u8 (c : Int)] 5) := ⟨_, rfl⟩
  have X2 : ∀ j u, [Value.int .u8 (c : Int)][j]? = some u → w2.cell? ((⟨w1.heap.size, 0, none⟩ : Addr).add j) = some u := by rw [hw2]; exact cells_newR w1 _ rfl #[.int .u8 (c : Int)] 5
  have hown2 : w2.ownsRowF B 5 1 v bs.length bs := by rw [hw2]; exact hown.alloc _
  have hb2' : w2.heap[b]? = some (.cells #[.pointer (some ⟨b, 0, none⟩), v] 79 (0, 0)) := by rw [hw2]; exact alloc_of hbk _
  have hs2 : w1.heap.size ≤ w2.heap.size := by rw [hw2]; simp
  have bel2 : Below B w w2 := by rw [hw2]; exact hb1.alloc (Nat.le_trans hBw hb1.size) _
  have HW2 := keepH hw2
  clear hw2
  go_wp2_with (at_builtin; rw [← HW2.out]; refine wpList_append_ownF _ rfl _ _ 77 rfl B 5 i0 (.int .u8 0) 1 1 Tryz.underlying77 hi hz0 hz1 hz2 rfl (by decide) _ _ _ rfl hown2 ⟨w1.heap.size, 0, none⟩ 1 1 [.int .u8 (c : Int)] rfl rfl X2 (by intro u hu; simp at hu; subst hu; rfl) ?c3 ?c4 ?c5 ?_)
  case c3 => unfold maxLen; omega
  case c4 => omega
  case c5 => have := hb1.size; omega
  intro v' w3 hown' hgrow _
  have hlt := lt_of hb2'
  have hb3 : w3.heap[b]? = some (.cells #[.pointer (some ⟨b, 0, none⟩), v] 79 (0, 0)) := (hgrow.block b hlt (fun e => hne e.symm)).trans hb2'
  have d0 := cell_of hb3 0
  have d1 := cell_of hb3 1
  have f1 := free_of hb3 1
  obtain ⟨ao, n', cap, rfl⟩ : ∃ ao n' cap, v' = .slice ao n' cap := by
    rcases hown'.2 with ⟨hv, _⟩ | ⟨g, cap, cur, fz, hv, _⟩
    · exact ⟨_, _, _, hv⟩
    · exact ⟨_, _, _, hv⟩
  go_wp2
  go_ret
  refine ⟨rfl, Or.inr (Lib.BuilderAtF.put (T := 79) (e := 5) hB hb3 (bs' := bs ++ [.int .u8 (c : Int)]) (by simpa using hown') (by decide)), ?_⟩
  exact (bel2.grown hgrow (by have := bel2.size; omega) (fun k hk => (hown2.lt k hk).1)).setCell (p := ⟨b, 1, none⟩) hB _
end Go.Proofs.YtmmaniolaljjlaaGreatDoor
/- Strings as lists of bytes; what stays behind calls that only lay blocks. -/
namespace Go.Proofs.YtmmaniolaljjlaaGreatDoor
open Go.RowKit
set_option linter.unusedVariables false

abbrev mkS (l : List UInt8) : ByteArray := ⟨l.toArray⟩
theorem mkS_data (s : ByteArray) : mkS s.data.toList = s := Lib.mk_data s
theorem mkS_size (l : List UInt8) : (mkS l).size = l.length := by show l.toArray.size = _; simp
theorem mkS_extract (l : List UInt8) (a b : Nat) : (mkS l).extract a b = mkS ((l.drop a).take (b - a)) := Lib.extract_eq _ _ _
theorem mkS_inj {a b : List UInt8} (h : mkS a = mkS b) : a = b := by
  have := congrArg (fun s : ByteArray => s.data.toList) h
  simpa using this
theorem mkS_toList (l : List UInt8) : (mkS l).toList = l := by
  exact Lib.toList_data _
theorem beq_mkS (l r : List UInt8) : ((mkS l).toList == (mkS r).toList) = decide (l = r) := by
  rw [mkS_toList, mkS_toList]
  by_cases h : l = r
  · simp [h]
  · simp [h]
theorem mkS_append (a b : List UInt8) : mkS a ++ mkS b = mkS (a ++ b) := by
  apply ByteArray.ext
  simp [ByteArray.data_append]
theorem add_str (a b : List UInt8) (h : a.length + b.length ≤ 140737488355328) : ∀ W, (Op.stringOp .add (mkS a) (mkS b)).run Tryz.prog W = .ok (.string (mkS (a ++ b))) W := fun W => by
  rw [run_string_add_sum W _ _ (by rw [mkS_size, mkS_size]; omega), mkS_append]

theorem var_below {P : Program} {w w' : World} {n : String} {cs : Array Value} (h : w.var? P n = some cs) (hb : Below w.heap.size w w') : w'.var? P n = some cs := by
  unfold World.var? at *
  cases hg : P.globalNamed n with
  | none => simp [hg] at h
  | some g =>
    simp only [hg, Option.bind_some] at h ⊢
    have hlt : g < w.heap.size := by
      rcases Nat.lt_or_ge g w.heap.size with h' | h'
      · exact h'
      · rw [Array.getElem?_eq_none h'] at h; simp at h
    rw [hb.block g hlt]
    exact h
theorem cell_below {w w' : World} {g i : Nat} {v : Value} (h : w.cell? ⟨g, i, none⟩ = some v) (hb : Below w.heap.size w w') : w'.cell? ⟨g, i, none⟩ = some v := by
  have hlt : g < w.heap.size := by
    rcases Nat.lt_or_ge g w.heap.size with h' | h'
    · exact h'
    · simp [World.cell?, Array.getElem?_eq_none h'] at h
  simp only [World.cell?] at h ⊢
  rw [hb.block g hlt]
  exact h
theorem below_chain {w w1 w2 : World} (h : Below w.heap.size w w1) (k : Below w1.heap.size w1 w2) : Below w.heap.size w w2 := h.trans (k.mono h.size)
theorem below_alloc (w : World) (o : Obj) : Below w.heap.size w (w.alloc o) := (Below.refl _ w).alloc (Nat.le_refl _) o
theorem heap_below {w w' : World} {b : Nat} {o : Obj} (h : w.heap[b]? = some o) (hb : Below w.heap.size w w') : w'.heap[b]? = some o := by
  have hlt : b < w.heap.size := by
    rcases Nat.lt_or_ge b w.heap.size with h' | h'
    · exact h'
    · rw [Array.getElem?_eq_none h'] at h; simp at h
  rw [hb.block b hlt]; exact h
theorem grow_below (w : World) (os : Array Obj) (k : Nat) : Below w.heap.size w (Sort.grow (w.drewN k) os) := by
  refine ⟨rfl, rfl, rfl, ?_, fun i hi => ?_⟩
  · simp [Sort.grow]
  · simp only [Sort.grow]
    rw [Array.getElem?_append_left (by simpa using hi)]
    rfl
theorem chgB {w w' : World} (h : Chg (fun _ => False) w w') : Below w.heap.size w w' := ⟨h.os, h.tape, h.output, h.size, fun k hk => h.block k hk (fun x => x)⟩
theorem belowC {w w' : World} (h : Below w.heap.size w w') : Chg (fun _ => False) w w' := ⟨h.os, h.tape, h.output, h.size, fun k hk _ => h.block k hk⟩
end Go.Proofs.YtmmaniolaljjlaaGreatDoor
