/- Accesses as lines of text, there and back. Pure. -/
import Derived.Test.YtmmaniolaljjlaaGreatDoorHta
import Derived.Lib.Join
import Derived.Lib.ParseIntB
namespace Go.Proofs.YtmmaniolaljjlaaGreatDoor
open Go.Lib
set_option linter.unusedVariables false

structure Ax where
  th : Int
  kind : Nat
  addr : Nat
  a : Nat
  b : Nat
  vals : List Nat
  got : Nat
  ok : Bool
def isU (n : Nat) : Prop := n < 18446744073709551616
structure Ax.Ok (x : Ax) : Prop where
  th0 : -9223372036854775808 ≤ x.th
  th1 : x.th < 9223372036854775808
  kind : x.kind < 256
  addr : isU x.addr
  a : isU x.a
  b : isU x.b
  got : isU x.got
  vals : ∀ v ∈ x.vals, isU v
def wordL : Nat → List UInt8
  | 1 => [108, 111, 97, 100]
  | 2 => [115, 116, 111, 114, 101]
  | 3 => [99, 97, 115]
  | 4 => [97, 100, 100]
  | 5 => [97, 108, 108, 111, 99]
  | _ => []
def numsL (x : Ax) : List Nat :=
  if x.kind = 1 then [x.addr, x.got] else if x.kind = 2 then [x.addr, x.a] else if x.kind = 3 then [x.addr, x.a, x.b] else if x.kind = 4 then [x.addr, x.a, x.got] else if x.kind = 5 then [x.addr] else []
def okL (b : Bool) : List UInt8 := if b then [121, 101, 115] else [110, 111]
def RightA (x : Ax) : Prop :=
  (x.kind = 1 ∧ x.a = 0 ∧ x.b = 0 ∧ x.vals = [] ∧ x.ok = false) ∨ (x.kind = 2 ∧ x.b = 0 ∧ x.vals = [] ∧ x.got = 0 ∧ x.ok = false) ∨ (x.kind = 3 ∧ x.vals = [] ∧ x.got = 0) ∨
  (x.kind = 4 ∧ x.b = 0 ∧ x.vals = [] ∧ x.ok = false) ∨ (x.kind = 5 ∧ x.a = 0 ∧ x.b = 0 ∧ x.got = 0 ∧ x.ok = false)
instance (x : Ax) : Decidable (RightA x) := by unfold RightA; infer_instance
def partsL (x : Ax) : List (List UInt8) := itoa x.th :: wordL x.kind :: ((numsL x).map decDigits ++ ((if x.kind = 3 then [okL x.ok] else []) ++ x.vals.map decDigits))
def lineA (x : Ax) : List UInt8 := join (partsL x) [32]

/-! a text cut at its blanks, and joined -/
theorem join_cc (x y : List UInt8) (r : List (List UInt8)) : join (x :: y :: r) [32] = x ++ 32 :: join (y :: r) [32] := by
  rw [join_cons, join_cons]; simp [joinTail]
theorem split_step (k : Nat) (x r : List UInt8) (hx : noB 32 x) : splitK [32] 0 (k + 1) (x ++ 32 :: r) = x :: splitK [32] 0 k r := by
  rw [splitK, ix_sub, ix_at hx, if_neg (by simp)]
  congr 1
  · simp
  · congr 1
    have e : (x.length : Int).toNat + ([32] : List UInt8).length = x.length + 1 := by simp
    rw [e]
    rw [show x ++ 32 :: r = (x ++ [(32 : UInt8)]) ++ r by simp, List.drop_left' (by simp)]
theorem count_join : ∀ (fs : List (List UInt8)), (∀ f ∈ fs, noB 32 f) → (join fs [32]).count 32 = fs.length - 1
  | [], _ => rfl
  | [x], h => by rw [join_one]; exact List.count_eq_zero.mpr (fun hm => h x (by simp) 32 hm rfl)
  | x :: y :: r, h => by
    rw [join_cc, List.count_append, List.count_cons_self, count_join (y :: r) (fun f hf => h f (by simp [hf]))]
    rw [List.count_eq_zero.mpr (fun hm => h x (by simp) 32 hm rfl)]
    simp
theorem splitK_join : ∀ (fs : List (List UInt8)), fs ≠ [] → (∀ f ∈ fs, noB 32 f) → splitK [32] 0 (fs.length - 1) (join fs [32]) = fs
  | [], h, _ => absurd rfl h
  | [x], _, h => by rw [join_one]; rfl
  | x :: y :: r, _, h => by
    have ih := splitK_join (y :: r) (by simp) (fun f hf => h f (by simp [hf]))
    rw [join_cc, show (x :: y :: r).length - 1 = ((y :: r).length - 1) + 1 by simp, split_step _ _ _ (h x (by simp)), ih]
theorem split_join (fs : List (List UInt8)) (h0 : fs ≠ []) (h : ∀ f ∈ fs, noB 32 f) : split (join fs [32]) [32] = fs := by
  unfold split
  rw [count_one, count_join fs h]
  exact splitK_join fs h0 h
theorem joinK_split : ∀ (k : Nat) (s : List UInt8), join (splitK [32] 0 k s) [32] = s ∧ splitK [32] 0 k s ≠ []
  | 0, s => by simp [splitK, join_one]
  | k + 1, s => by
    rcases ix_cases 32 s with h | ⟨a, r, ha, rfl⟩
    · rw [splitK, ix_sub, ix_none h, if_pos (by decide)]
      simp [join_one]
    · rw [split_step _ _ _ ha]
      obtain ⟨h1, h2⟩ := joinK_split k r
      cases hs : splitK [32] 0 k r with
      | nil => exact absurd hs h2
      | cons y t =>
        rw [hs] at h1
        rw [join_cc, h1]
        simp
theorem join_split (s : List UInt8) : join (split s [32]) [32] = s := (joinK_split _ s).1
theorem split_ne (s : List UInt8) : split s [32] ≠ [] := (joinK_split _ s).2

/-! numbers, in the one form in which they are written -/
theorem pum_eq : ∀ (l : List UInt8) (acc : Nat), parseUintM (2 ^ 64 - 1) acc l = parseUint10 acc l := by
  intro l
  induction l with
  | nil => intro acc; rfl
  | cons c r ih =>
    intro acc
    simp only [parseUintM, parseUint10]
    split
    · split
      · rfl
      · have e : (2 ^ 64 - 1 < acc * 10 + (c.toNat - 48)) ↔ (18446744073709551616 ≤ acc * 10 + (c.toNat - 48)) := by omega
        simp only [e, ih]
    · rfl
theorem pu_mag (l : List UInt8) : parseUintB 64 l = parseMag l := by
  unfold parseUintB parseMag
  rw [pum_eq]
def natP (f : List UInt8) : Option Nat := match parseMag f with | .ok u => if decDigits u = f then some u else none | _ => none
theorem natP_dec (u : Nat) (h : isU u) : natP (decDigits u) = some u := by
  unfold natP; rw [mag_dec u h]; simp
theorem natP_some {f : List UInt8} {u : Nat} (h : natP f = some u) : f = decDigits u ∧ isU u := by
  unfold natP at h
  split at h
  · rename_i v hv
    split at h
    · rename_i e
      injection h with h
      subst h
      exact ⟨e.symm, parseMag_lt hv⟩
    · cases h
  · cases h
def intP (f : List UInt8) : Option Int := match atoiAll f with | .ok v => if itoa v = f then some v else none | _ => none
theorem intP_itoa (v : Int) (h0 : -9223372036854775808 ≤ v) (h1 : v < 9223372036854775808) : intP (itoa v) = some v := by
  unfold intP; rw [atoi_itoa v h0 h1]; simp
theorem atoi_range {f : List UInt8} {v : Int} (h : atoiAll f = .ok v) : -9223372036854775808 ≤ v ∧ v < 9223372036854775808 := by
  unfold atoiAll at h
  split at h
  · cases h
  · simp only at h
    split at h
    · cases h
    · cases h
    · split at h
      · cases h
      · split at h
        · cases h
        · injection h with h
          subst h
          split <;> omega
theorem intP_some {f : List UInt8} {v : Int} (h : intP f = some v) : f = itoa v ∧ -9223372036854775808 ≤ v ∧ v < 9223372036854775808 := by
  unfold intP at h
  split at h
  · rename_i u hv
    split at h
    · rename_i e
      injection h with h
      subst h
      exact ⟨e.symm, atoi_range hv⟩
    · cases h
  · cases h
def natsP : List (List UInt8) → Option (List Nat)
  | [] => some []
  | f :: r => match natP f with | none => none | some u => match natsP r with | none => none | some us => some (u :: us)
theorem natsP_dec : ∀ (us : List Nat), (∀ u ∈ us, isU u) → natsP (us.map decDigits) = some us
  | [], _ => rfl
  | u :: us, h => by
    simp only [List.map_cons, natsP, natP_dec u (h u (by simp)), natsP_dec us (fun v hv => h v (by simp [hv]))]
theorem natsP_some : ∀ {fs : List (List UInt8)} {us : List Nat}, natsP fs = some us → fs = us.map decDigits ∧ ∀ u ∈ us, isU u
  | [], us, h => by
    injection h with h; subst h
    exact ⟨rfl, fun u hu => by simp at hu⟩
  | f :: r, us, h => by
    simp only [natsP] at h
    split at h
    · cases h
    · rename_i u hu
      split at h
      · cases h
      · rename_i us' hus
        injection h with h; subst h
        obtain ⟨e1, e2⟩ := natP_some hu
        obtain ⟨e3, e4⟩ := natsP_some hus
        refine ⟨by rw [List.map_cons, ← e1, ← e3], fun v hv => ?_⟩
        rcases List.mem_cons.mp hv with rfl | hv
        · exact e2
        · exact e4 v hv

/-! an access read -/
def kindP (w : List UInt8) : Option Nat := if w = wordL 1 then some 1 else if w = wordL 2 then some 2 else if w = wordL 3 then some 3 else if w = wordL 4 then some 4 else if w = wordL 5 then some 5 else none
def cntK (k : Nat) : Nat := if k = 1 then 2 else if k = 2 then 2 else if k = 3 then 3 else if k = 4 then 3 else if k = 5 then 1 else 0
/-- the access of a thread and a kind with these numbers -/
def putA (th : Int) (k : Nat) (ns : List Nat) (ok : Bool) (vals : List Nat) : Ax :=
  if k = 1 then ⟨th, k, ns.getD 0 0, 0, 0, vals, ns.getD 1 0, ok⟩ else if k = 2 then ⟨th, k, ns.getD 0 0, ns.getD 1 0, 0, vals, 0, ok⟩ else if k = 3 then ⟨th, k, ns.getD 0 0, ns.getD 1 0, ns.getD 2 0, vals, 0, ok⟩
  else if k = 4 then ⟨th, k, ns.getD 0 0, ns.getD 1 0, 0, vals, ns.getD 2 0, ok⟩ else ⟨th, k, ns.getD 0 0, 0, 0, vals, 0, ok⟩
/-- what stands behind the numbers -/
def tailP (k : Nat) (r : List (List UInt8)) : Option (Bool × List Nat) :=
  if k = 3 then (if r = [okL true] then some (true, []) else if r = [okL false] then some (false, []) else none)
  else if k = 5 then (match natsP r with | none => none | some us => some (false, us))
  else if r = [] then some (false, []) else none
def fillP (th : Int) (k : Nat) (r : List (List UInt8)) : Option Ax :=
  if r.length < cntK k then none else
  match natsP (r.take (cntK k)) with
  | none => none
  | some ns => match tailP k (r.drop (cntK k)) with | none => none | some q => some (putA th k ns q.1 q.2)
def accP : List (List UInt8) → Option Ax
  | f0 :: f1 :: r => match intP f0 with | none => none | some th => match kindP f1 with | none => none | some k => fillP th k r
  | _ => none
theorem kindP_some {w : List UInt8} {k : Nat} (h : kindP w = some k) : w = wordL k ∧ 1 ≤ k ∧ k ≤ 5 := by
  unfold kindP at h
  repeat' split at h
  all_goals first | (cases h; done) | (injection h with h; subst h; refine ⟨by assumption, by omega, by omega⟩)
theorem kindP_word {k : Nat} (h1 : 1 ≤ k) (h5 : k ≤ 5) : kindP (wordL k) = some k := by
  have : k = 1 ∨ k = 2 ∨ k = 3 ∨ k = 4 ∨ k = 5 := by omega
  rcases this with rfl | rfl | rfl | rfl | rfl <;> rfl
theorem dec_no (n : Nat) : noB 32 (decDigits n) ∧ noB 10 (decDigits n) := by
  refine ⟨fun x hx e => ?_, fun x hx e => ?_⟩ <;> (have := dec_digit n x hx; subst e; revert this; decide)
theorem word_no (k : Nat) : noB 32 (wordL k) ∧ noB 10 (wordL k) := by
  unfold noB wordL
  split <;> exact ⟨by decide, by decide⟩
theorem ok_no (b : Bool) : noB 32 (okL b) ∧ noB 10 (okL b) := by cases b <;> exact ⟨by unfold noB okL; decide, by unfold noB okL; decide⟩
theorem parts_no (x : Ax) : ∀ f ∈ partsL x, noB 32 f ∧ noB 10 f := by
  intro f hf
  unfold partsL at hf
  rcases List.mem_cons.mp hf with rfl | hf
  · exact ⟨itoa_no _ _ (by decide), itoa_no _ _ (by decide)⟩
  rcases List.mem_cons.mp hf with rfl | hf
  · exact word_no _
  rcases List.mem_append.mp hf with hf | hf
  · obtain ⟨n, _, rfl⟩ := List.mem_map.mp hf
    exact dec_no n
  rcases List.mem_append.mp hf with hf | hf
  · split at hf
    · simp at hf; subst hf; exact ok_no _
    · simp at hf
  · obtain ⟨n, _, rfl⟩ := List.mem_map.mp hf
    exact dec_no n
theorem split_line (x : Ax) : split (lineA x) [32] = partsL x := split_join _ (by unfold partsL; simp) (fun f hf => (parts_no x f hf).1)
theorem join_noB : ∀ (fs : List (List UInt8)), (∀ f ∈ fs, noB 10 f) → noB 10 (join fs [32])
  | [], _ => noB_nil _
  | [x], h => by rw [join_one]; exact h x (by simp)
  | x :: y :: r, h => by
    rw [join_cc]
    exact (h x (by simp)).append ((noB.cons (by decide)) (join_noB (y :: r) (fun f hf => h f (by simp [hf]))))
theorem line_no (x : Ax) : noB 10 (lineA x) := join_noB _ (fun f hf => (parts_no x f hf).2)
theorem right_kind {x : Ax} (h : RightA x) : 1 ≤ x.kind ∧ x.kind ≤ 5 := by
  rcases h with h | h | h | h | h <;> omega
/-- a right access is read back -/
theorem accP_line {x : Ax} (h : RightA x) (o : x.Ok) : accP (partsL x) = some x := by
  have hk := right_kind h
  obtain ⟨th, kind, addr, a, b, vals, got, ok⟩ := x
  have oth0 := o.th0
  have oth1 := o.th1
  have oad := o.addr
  have oa := o.a
  have ob := o.b
  have og := o.got
  have ov := o.vals
  simp only at hk oth0 oth1 oad oa ob og ov
  unfold partsL accP
  simp only [intP_itoa th oth0 oth1, kindP_word hk.1 hk.2]
  have n1 : ∀ u, isU u → natP (decDigits u) = some u := natP_dec
  rcases h with ⟨e1, e2⟩ | ⟨e1, e2⟩ | ⟨e1, e2⟩ | ⟨e1, e2⟩ | ⟨e1, e2⟩ <;> simp only at e1 e2 <;> subst e1
  · obtain ⟨rfl, rfl, rfl, rfl⟩ := e2
    simp [fillP, numsL, cntK, natsP, n1 _ oad, n1 _ og, tailP, putA]
  · obtain ⟨rfl, rfl, rfl, rfl⟩ := e2
    simp [fillP, numsL, cntK, natsP, n1 _ oad, n1 _ oa, tailP, putA]
  · obtain ⟨rfl, rfl⟩ := e2
    cases ok
    · simp [fillP, numsL, cntK, natsP, n1 _ oad, n1 _ oa, n1 _ ob, tailP, putA, okL]
    · simp [fillP, numsL, cntK, natsP, n1 _ oad, n1 _ oa, n1 _ ob, tailP, putA, okL]
  · obtain ⟨rfl, rfl, rfl⟩ := e2
    simp [fillP, numsL, cntK, natsP, n1 _ oad, n1 _ oa, n1 _ og, tailP, putA]
  · obtain ⟨rfl, rfl, rfl, rfl⟩ := e2
    simp [fillP, numsL, cntK, natsP, n1 _ oad, tailP, putA, natsP_dec vals ov]
theorem okU0 : isU 0 := by unfold isU; omega
/-- what is read is a right access, and has that text -/
theorem accP_some {ps : List (List UInt8)} {x : Ax} (h : accP ps = some x) : RightA x ∧ x.Ok ∧ ps = partsL x := by
  unfold accP at h
  split at h
  · rename_i f0 f1 r
    split at h
    · cases h
    rename_i th hth
    split at h
    · cases h
    rename_i k hk
    obtain ⟨e0, t0, t1⟩ := intP_some hth
    obtain ⟨e1, k1, k5⟩ := kindP_some hk
    unfold fillP at h
    split at h
    · cases h
    rename_i hlen
    split at h
    · cases h
    rename_i ns hns
    split at h
    · cases h
    rename_i q hq
    injection h with h
    obtain ⟨en, on⟩ := natsP_some hns
    have er : r = ns.map decDigits ++ r.drop (cntK k) := by rw [← en, List.take_append_drop]
    have hl : ns.length = cntK k := by
      have := congrArg List.length en
      rw [List.length_take, List.length_map] at this
      omega
    have hkk : k = 1 ∨ k = 2 ∨ k = 3 ∨ k = 4 ∨ k = 5 := by omega
    obtain ⟨q1, q2⟩ := q
    rcases hkk with rfl | rfl | rfl | rfl | rfl
    · match ns, hl with
      | [n0, n1], _ =>
        simp only [tailP] at hq
        rw [if_neg (by omega), if_neg (by omega)] at hq
        split at hq
        · rename_i hr
          injection hq with hq; injection hq with hq1 hq2; subst hq1 hq2
          subst h
          have o0 := on n0 (by simp)
          have o1 := on n1 (by simp)
          refine ⟨Or.inl (by simp [putA]), ⟨t0, t1, by simp [putA], by simpa [putA] using o0, okU0, okU0, by simpa [putA] using o1, by simp [putA]⟩, ?_⟩
          rw [e0, e1, er, hr]
          simp [partsL, numsL, putA]
        · cases hq
    · match ns, hl with
      | [n0, n1], _ =>
        simp only [tailP] at hq
        rw [if_neg (by omega), if_neg (by omega)] at hq
        split at hq
        · rename_i hr
          injection hq with hq; injection hq with hq1 hq2; subst hq1 hq2
          subst h
          have o0 := on n0 (by simp)
          have o1 := on n1 (by simp)
          refine ⟨Or.inr (Or.inl (by simp [putA])), ⟨t0, t1, by simp [putA], by simpa [putA] using o0, by simpa [putA] using o1, okU0, okU0, by simp [putA]⟩, ?_⟩
          rw [e0, e1, er, hr]
          simp [partsL, numsL, putA]
        · cases hq
    · match ns, hl with
      | [n0, n1, n2], _ =>
        simp only [tailP] at hq
        rw [if_pos trivial] at hq
        have o0 := on n0 (by simp)
        have o1 := on n1 (by simp)
        have o2 := on n2 (by simp)
        split at hq
        · rename_i hr
          injection hq with hq; injection hq with hq1 hq2; subst hq1 hq2
          subst h
          refine ⟨Or.inr (Or.inr (Or.inl (by simp [putA]))), ⟨t0, t1, by simp [putA], by simpa [putA] using o0, by simpa [putA] using o1, by simpa [putA] using o2, okU0, by simp [putA]⟩, ?_⟩
          rw [e0, e1, er, hr]
          simp [partsL, numsL, putA]
        · split at hq
          · rename_i hr
            injection hq with hq; injection hq with hq1 hq2; subst hq1 hq2
            subst h
            refine ⟨Or.inr (Or.inr (Or.inl (by simp [putA]))), ⟨t0, t1, by simp [putA], by simpa [putA] using o0, by simpa [putA] using o1, by simpa [putA] using o2, okU0, by simp [putA]⟩, ?_⟩
            rw [e0, e1, er, hr]
            simp [partsL, numsL, putA]
          · cases hq
    · match ns, hl with
      | [n0, n1, n2], _ =>
        simp only [tailP] at hq
        rw [if_neg (by omega), if_neg (by omega)] at hq
        split at hq
        · rename_i hr
          injection hq with hq; injection hq with hq1 hq2; subst hq1 hq2
          subst h
          have o0 := on n0 (by simp)
          have o1 := on n1 (by simp)
          have o2 := on n2 (by simp)
          refine ⟨Or.inr (Or.inr (Or.inr (Or.inl (by simp [putA])))), ⟨t0, t1, by simp [putA], by simpa [putA] using o0, by simpa [putA] using o1, okU0, by simpa [putA] using o2, by simp [putA]⟩, ?_⟩
          rw [e0, e1, er, hr]
          simp [partsL, numsL, putA]
        · cases hq
    · match ns, hl with
      | [n0], _ =>
        simp only [tailP] at hq
        rw [if_neg (by omega), if_pos trivial] at hq
        split at hq
        · cases hq
        · rename_i us hus
          injection hq with hq; injection hq with hq1 hq2; subst hq1 hq2
          subst h
          obtain ⟨eu, ou⟩ := natsP_some hus
          have o0 := on n0 (by simp)
          refine ⟨Or.inr (Or.inr (Or.inr (Or.inr (by simp [putA])))), ⟨t0, t1, by simp [putA], by simpa [putA] using o0, okU0, okU0, okU0, by simpa [putA] using ou⟩, ?_⟩
          rw [e0, e1, er, eu]
          simp [partsL, numsL, putA]
  · cases h
/-- what parse tells of a line -/
def lineP (t : List UInt8) : Option Ax := accP (split t [32])
theorem lineP_some {t : List UInt8} {x : Ax} (h : lineP t = some x) : RightA x ∧ x.Ok ∧ t = lineA x := by
  obtain ⟨a, b, c⟩ := accP_some h
  exact ⟨a, b, by unfold lineA; rw [← c, join_split]⟩
theorem lineP_line {x : Ax} (h : RightA x) (o : x.Ok) : lineP (lineA x) = some x := by
  unfold lineP
  rw [split_line]
  exact accP_line h o
end Go.Proofs.YtmmaniolaljjlaaGreatDoor
