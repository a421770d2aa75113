/- The document's model: Content, Do of a kind that is none. -/
import Derived.Test.YtahgaghokpicgaaL9D6q
namespace Go.Proofs.Ytahgaghokpicgaa
open Go.RowKit Go.Maps
set_option linter.unusedVariables false

set_option maxRecDepth 100000 in
set_option maxHeartbeats 4000000 in
theorem r_content6 {W : World} {m : Nat} {mu : Int} {mv hv : Value} {hs : List (Nat × Value)} (H : RMod W m mu mv hv hs) {g : Nat → Option Nat} {l : List (Nat × Nat)} (hg : RL W mv g l) :
    Calls Try.prog 33 #[.pointer (some ⟨m, 0, none⟩)] W fun e W' => e = .returned mv ∧ Chg (fun _ => False) W W' := by
  obtain ⟨pm, nm, rfl, -, -⟩ := hg.row.slice
  have m1 := H.c1
  have HH := keepH H
  clear H hg
  go_enter Try.func33, Try.ntmps33
  go_wp2_with fail
  exact bodyPost_ret (v := .slice pm l.length nm) (by simp [results, Try.results33, go_sem]) rfl ⟨rfl, Chg.refl _ _⟩
set_option maxRecDepth 100000 in
set_option maxHeartbeats 4000000 in
theorem r_new6 (W : World) {mu : Int} (h1 : 1 ≤ mu) (h2 : mu ≤ 1024) :
    Calls Try.prog 22 #[.int .i64 mu] W fun e W' => e = .returned (.tuple #[.pointer (some ⟨W.heap.size, 0, none⟩), .int .i64 0]) ∧ RMod W' W.heap.size mu (.slice none 0 0) (.slice none 0 0) [] ∧ Chg (fun _ => False) W W' := by
  have q1 : decide (mu < 1) = false := by simp; omega
  have q2 : decide (mu > 1024) = false := by simp; omega
  have q3 : decide (1024 < mu) = false := by simp; omega
  have q4 : ¬ mu < 1 := by omega
  have q5 : ¬ 1024 < mu := by omega
  go_enter Try.func22, Try.ntmps22
  go_wp2_with fail
  exact bodyPost_ret (v := .tuple #[.pointer (some ⟨W.heap.size, 0, none⟩), .int .i64 0]) (by simp [results, Try.results22, go_sem]) rfl ⟨rfl, ⟨heap_alloc_new _ _, HRow.nil _ _⟩, (Chg.refl _ _).alloc _⟩
/-- What is held: a handle, the map's value, the map, its pairs. -/
abbrev Held6 := Nat × Value × (Nat → Option Nat) × List (Nat × Nat)
/-- The rows that a model holds: its map, and the maps of its handles; none of their blocks is one of A. -/
structure RM6 (A : Nat → Prop) (W : World) (m : Nat) (mu : Int) (g : Nat → Option Nat) (l : List (Nat × Nat)) (H : List (Nat × (Nat → Option Nat) × List (Nat × Nat))) : Prop where
  ex : ∃ (mv hv : Value) (Z : List Held6), RMod W m mu mv hv (Z.map (fun z => (z.1, z.2.1))) ∧ RL W mv g l ∧ Z.map (fun z => (z.1, z.2.2)) = H ∧ (∀ z ∈ Z, RL W z.2.1 z.2.2.1 z.2.2.2) ∧ (∀ b, mv.ownBlock = some b → ¬ A b) ∧ ∀ z ∈ Z, ∀ b, z.2.1.ownBlock = some b → ¬ A b
theorem RL.nil (W : World) : RL W (.slice none 0 0) (fun _ => none) [] := ⟨⟨⟨rfl, .inl ⟨rfl, rfl⟩⟩, fun x h => by simp at h⟩, ⟨List.Pairwise.nil, fun k v => by simp⟩⟩
/-- A row of pairs does not lie in the block of the model. -/
theorem RMod.rl {W : World} {m : Nat} {mu : Int} {mv hv : Value} {hs : List (Nat × Value)} (h : RMod W m mu mv hv hs) {v : Value} {f : Nat → Option Nat} {l : List (Nat × Nat)} (hr : RL W v f l) : ∀ b, v.ownBlock = some b → b ≠ m := by
  intro b hb e
  subst e
  rcases hr.row.1.2 with ⟨e, _⟩ | ⟨g, cap, cur, e, _, hg, _⟩
  · rw [e] at hb; cases hb
  · rw [e] at hb
    injection hb with hb
    subst hb
    rw [h.at_] at hg
    injection hg with hg
    injection hg with _ hg
    exact absurd hg (by decide)
theorem RM6.quiet {A : Nat → Prop} {W W' : World} {m : Nat} {mu : Int} {g : Nat → Option Nat} {l : List (Nat × Nat)} {H : List (Nat × (Nat → Option Nat) × List (Nat × Nat))} (h : RM6 A W m mu g l H) (c : Chg (fun _ => False) W W') : RM6 A W' m mu g l H := by
  obtain ⟨mv, hv, Z, h1, h2, h3, h4, h5⟩ := h.ex
  exact ⟨mv, hv, Z, h1.quiet c, h2.quiet c, h3, fun z hz => (h4 z hz).quiet c, h5⟩
/-- Rows that are there do not lie in what comes. -/
theorem RM6.avoid {A A' : Nat → Prop} {W : World} {m : Nat} {mu : Int} {g : Nat → Option Nat} {l : List (Nat × Nat)} {H : List (Nat × (Nat → Option Nat) × List (Nat × Nat))} (h : RM6 A W m mu g l H) (hA : ∀ b, A' b → W.heap.size ≤ b) : RM6 A' W m mu g l H := by
  obtain ⟨mv, hv, Z, h1, h2, h3, h4, -⟩ := h.ex
  exact ⟨mv, hv, Z, h1, h2, h3, h4, fun b hb x => by have := (h2.row.lt b hb).2; have := hA b x; omega, fun z hz b hb x => by have := ((h4 z hz).row.lt b hb).2; have := hA b x; omega⟩
theorem RMod.held {W W' : World} {m : Nat} {mu : Int} {mv hv : Value} {hs : List (Nat × Value)} (h : RMod W m mu mv hv hs) (c : Chg (fun k => k = m) W W') {Z : List Held6} (h4 : ∀ z ∈ Z, RL W z.2.1 z.2.2.1 z.2.2.2) : ∀ z ∈ Z, RL W' z.2.1 z.2.2.1 z.2.2.2 :=
  fun z hz => (h4 z hz).chg c (fun b hb e => h.rl (h4 z hz) b hb e)
/-- A call that writes the map anew leaves the held maps as they were. -/
theorem RM6.map {A : Nat → Prop} {W W' : World} {m : Nat} {mu : Int} {mv hv : Value} {Z : List Held6} (h1 : RMod W m mu mv hv (Z.map (fun z => (z.1, z.2.1)))) (h4 : ∀ z ∈ Z, RL W z.2.1 z.2.2.1 z.2.2.2)
    {v : Value} {g : Nat → Option Nat} {l : List (Nat × Nat)} (hm : RMod W' m mu v hv (Z.map (fun z => (z.1, z.2.1)))) (hr : RL W' v g l) (hA : ∀ b, v.ownBlock = some b → ¬ A b) (h5 : ∀ z ∈ Z, ∀ b, z.2.1.ownBlock = some b → ¬ A b) (c : Chg (fun k => k = m) W W') : RM6 A W' m mu g l (Z.map (fun z => (z.1, z.2.2))) :=
  ⟨v, hv, Z, hm, hr, rfl, h1.held c h4, hA, h5⟩
/-- A row by rising keys, with one more. -/
def holdB {β : Type} (H : List (Nat × β)) (h : Nat) (x : β) : List (Nat × β) := H.takeWhile (fun y => decide (y.1 < h)) ++ (h, x) :: H.dropWhile (fun y => decide (y.1 < h))
theorem holdB_L (hs : List (Nat × Value)) (h : Nat) (v : Value) : holdL hs h v = holdB hs h v := rfl
theorem holdB_map {β γ : Type} (q : β → γ) (Z : List (Nat × β)) (h : Nat) (x : β) : (holdB Z h x).map (fun z => (z.1, q z.2)) = holdB (Z.map (fun z => (z.1, q z.2))) h (q x) := by
  simp only [holdB, List.map_append, List.map_cons, List.takeWhile_map, List.dropWhile_map]
  rfl
theorem holdB_mem {β : Type} {Z : List (Nat × β)} {h : Nat} {x : β} {z : Nat × β} (hz : z ∈ holdB Z h x) : z = (h, x) ∨ z ∈ Z := by
  rcases List.mem_append.1 hz with hz | hz
  · exact .inr ((List.takeWhile_sublist _).mem hz)
  · rcases List.mem_cons.1 hz with hz | hz
    · exact .inl hz
    · exact .inr ((List.dropWhile_sublist _).mem hz)
/-- A handle that is held from now on: it shares the map's row. -/
theorem RM6.hold {A : Nat → Prop} {W W' : World} {m : Nat} {mu : Int} {mv hv v : Value} {Z : List Held6} {g : Nat → Option Nat} {l : List (Nat × Nat)} (h1 : RMod W m mu mv hv (Z.map (fun z => (z.1, z.2.1)))) (h2 : RL W mv g l) (h4 : ∀ z ∈ Z, RL W z.2.1 z.2.2.1 z.2.2.2) {h : Nat}
    (hm : RMod W' m mu mv v (holdL (Z.map (fun z => (z.1, z.2.1))) h mv)) (h5 : (∀ b, mv.ownBlock = some b → ¬ A b) ∧ ∀ z ∈ Z, ∀ b, z.2.1.ownBlock = some b → ¬ A b) (c : Chg (fun k => k = m) W W') : RM6 A W' m mu g l (holdB (Z.map (fun z => (z.1, z.2.2))) h (g, l)) := by
  refine ⟨mv, v, holdB Z h (mv, g, l), ?_, h2.chg c (fun b hb e => h1.rl h2 b hb e), ?_, fun z hz => ?_, h5.1, fun z hz => ?_⟩
  · have e := holdB_map (fun y : Value × (Nat → Option Nat) × List (Nat × Nat) => y.1) Z h (mv, g, l)
    rw [e, ← holdB_L]
    exact hm
  · exact holdB_map (fun y : Value × (Nat → Option Nat) × List (Nat × Nat) => y.2) Z h (mv, g, l)
  · rcases holdB_mem hz with rfl | hz
    · exact h2.chg c (fun b hb e => h1.rl h2 b hb e)
    · exact h1.held c h4 z hz
  · rcases holdB_mem hz with rfl | hz
    · exact h5.1
    · exact h5.2 z hz
/-- A handle that is let go. -/
theorem RM6.drop {A : Nat → Prop} {W W' : World} {m : Nat} {mu : Int} {mv hv v : Value} {Z : List Held6} {g : Nat → Option Nat} {l : List (Nat × Nat)} (h1 : RMod W m mu mv hv (Z.map (fun z => (z.1, z.2.1)))) (h2 : RL W mv g l) (h4 : ∀ z ∈ Z, RL W z.2.1 z.2.2.1 z.2.2.2) {i : Nat}
    (hm : RMod W' m mu mv v ((Z.map (fun z => (z.1, z.2.1))).take i ++ (Z.map (fun z => (z.1, z.2.1))).drop (i + 1))) (h5 : (∀ b, mv.ownBlock = some b → ¬ A b) ∧ ∀ z ∈ Z, ∀ b, z.2.1.ownBlock = some b → ¬ A b) (c : Chg (fun k => k = m) W W') : RM6 A W' m mu g l (((Z.map (fun z => (z.1, z.2.2))).take i) ++ ((Z.map (fun z => (z.1, z.2.2))).drop (i + 1))) := by
  refine ⟨mv, v, Z.take i ++ Z.drop (i + 1), ?_, h2.chg c (fun b hb e => h1.rl h2 b hb e), ?_, fun z hz => ?_, h5.1, fun z hz => h5.2 z ?_⟩
  · rw [List.map_append, List.map_take, List.map_drop]; exact hm
  · rw [List.map_append, List.map_take, List.map_drop]
  · refine h1.held c h4 z ?_
    rcases List.mem_append.1 hz with hz | hz
    · exact List.mem_of_mem_take hz
    · exact List.mem_of_mem_drop hz
  · rcases List.mem_append.1 hz with hz | hz
    · exact List.mem_of_mem_take hz
    · exact List.mem_of_mem_drop hz
end Go.Proofs.Ytahgaghokpicgaa
/- The document's model: a query of any handle: it tells, and nothing stays. -/
namespace Go.Proofs.Ytahgaghokpicgaa
open Go.RowKit Go.Maps
set_option linter.unusedVariables false

theorem place_cases (hs : List (Nat × Value)) (h : Nat) : placeI hs h = -1 ∨ ∃ i : Nat, placeI hs h = (i : Int) ∧ ∃ hi : i < hs.length, hs[i].1 = h := by
  unfold placeI
  cases e : placeL hs h with
  | none => exact .inl rfl
  | some i =>
    refine .inr ⟨i, rfl, ?_⟩
    unfold placeL at e
    obtain ⟨h1, h2, -⟩ := List.findIdx?_eq_some_iff_getElem.1 e
    exact ⟨h1, by simpa using h2⟩
/-- It tells an answer of seven cells, and nothing stays. -/
def QAny (W : World) (e : Ending) (W' : World) : Prop := (∃ (E : Int) (x1 x2 x3 x4 x5 x6 : Value), e = .returned (.agg #[.int .i64 E, x1, x2, x3, x4, x5, x6]) ∧ (#[.int .i64 E, x1, x2, x3, x4, x5, x6] : Array Value).all (·.oneCell') = true) ∧ Chg (fun _ => False) W W'
theorem QrQ.any {W : World} {E : Int} {l : List (Nat × Nat)} {n : Nat} {e : Ending} {W' : World} (h : QrQ W E l n e W') : QAny W e W' := by
  obtain ⟨v, rfl, hr, hc⟩ := h
  obtain ⟨p, c, rfl, -, -⟩ := hr.slice
  exact ⟨⟨_, _, _, _, _, _, _, rfl, by simp [Value.oneCell']⟩, hc⟩
theorem QAny.err {W : World} {E : Int} {e : Ending} {W' : World} (h : e = .returned (.agg #[.int .i64 E, .bool false, .int .u64 0, .bool false, .int .u64 0, .slice none 0 0, .int .u64 0]) ∧ Chg (fun _ => False) W W') : QAny W e W' :=
  ⟨⟨_, _, _, _, _, _, _, h.1, by simp [Value.oneCell']⟩, h.2⟩
theorem q_any {W : World} {m : Nat} {mu : Int} {mv hv : Value} {Z : List Held6} (h1 : RMod W m mu mv hv (Z.map (fun z => (z.1, z.2.1)))) (h4 : ∀ z ∈ Z, RL W z.2.1 z.2.2.1 z.2.2.2) (hl : Z.length ≤ 4000000) (hb : ∀ z ∈ Z, z.2.2.2.length ≤ 4398046510000)
    {kd : Int} (hkd : kd = 7 ∨ kd = 8 ∨ kd = 9) {hk : Nat} {k v od r6 r7 : Int} {r5 : Bool} {kp : Option Addr} {kn kc lo hi : Nat} {ks : List Nat} (hks : KeysAt W kp ks) (hkl : mu ≤ 4398046510000) (hkn : kn = ks.length) :
    Calls Try.prog 53 #[.pointer (some ⟨m, 0, none⟩), .agg #[.int .u8 kd, .int .u64 k, .int .u64 v, .int .u64 od, .int .u64 (hk : Int), .bool r5, .int .i64 r6, .int .i64 r7, .slice kp kn kc, .int .u64 (lo : Int), .int .u64 (hi : Int)]] W (QAny W) := by
  have hl2 : (Z.map (fun z => (z.1, z.2.1))).length ≤ 4000000 := by simpa using hl
  have hget : ∀ i : Nat, placeI (Z.map (fun z => (z.1, z.2.1))) hk = (i : Int) → i < (Z.map (fun z => (z.1, z.2.1))).length → ∃ (hh : Nat) (p : Option Addr) (c : Nat) (g : Nat → Option Nat) (lg : List (Nat × Nat)), (Z.map (fun z => (z.1, z.2.1)))[i]? = some (hh, Value.slice p lg.length c) ∧ RL W (.slice p lg.length c) g lg ∧ lg.length ≤ 4398046510000 := fun i _ hi2 => by
    have hi3 : i < Z.length := by simpa using hi2
    have hm := List.getElem_mem hi3
    have hr := h4 _ hm
    obtain ⟨p, c, e, -, -⟩ := hr.row.slice
    refine ⟨Z[i].1, p, c, Z[i].2.2.1, Z[i].2.2.2, ?_, by rw [← e]; exact hr, hb _ hm⟩
    rw [List.getElem?_map, List.getElem?_eq_getElem hi3, ← e]
    rfl
  rcases place_cases (Z.map (fun z => (z.1, z.2.1))) hk with hp | ⟨i, hp, hi2, -⟩
  · rcases hkd with rfl | rfl | rfl
    · by_cases hlen : mu < (kn : Int)
      · exact (q_long h1 hlen).mono (fun e W' h => QAny.err h)
      · exact (q_none7 h1 hl2 hlen hp).mono (fun e W' h => QAny.err h)
    · exact (q_none8 h1 hl2 hp).mono (fun e W' h => QAny.err h)
    · exact (q_none9 h1 hl2 hp).mono (fun e W' h => QAny.err h)
  · obtain ⟨hh, p, c, g, lg, hx, hg, hgl⟩ := hget i hp hi2
    rcases hkd with rfl | rfl | rfl
    · by_cases hlen : mu < (kn : Int)
      · exact (q_long h1 hlen).mono (fun e W' h => QAny.err h)
      · exact (q_held7 h1 hl2 hks (by omega) hkn hlen hp hx hg hgl).mono (fun e W' h => QrQ.any h)
    · exact (q_held8 h1 hl2 hp hx hg hgl).mono (fun e W' h => QrQ.any h)
    · exact (q_held9 h1 hl2 hp hx hg hgl).mono (fun e W' h => QrQ.any h)
end Go.Proofs.Ytahgaghokpicgaa
/- Do of the document's model, of any call: what becomes of it. -/
namespace Go.Proofs.Ytahgaghokpicgaa
open Go.RowKit Go.Maps
set_option linter.unusedVariables false

abbrev HeldL := List (Nat × (Nat → Option Nat) × List (Nat × Nat))
/-- The map after a call. -/
def stepG (kd : Int) (g : Nat → Option Nat) (k x : Nat) (od : Int) : Nat → Option Nat :=
  if kd = 2 then updO g k (some x) else if kd = 3 then updO g k none else if kd = 4 ∧ (g k).isSome = true ∧ (((g k).getD 0 : Nat) : Int) = od then updO g k (some x) else g
/-- A Snapshot alone lets one more be held. -/
def up5 (kd : Int) : Nat := if kd = 5 then 1 else 0
/-- What a call of the model leaves: E tells the errors; a Release that goes through was of a handle that is held. -/
def DoneAny (A : Nat → Prop) (W : World) (m : Nat) (mu : Int) (kd : Int) (hk9 hd : Nat) (g g' : Nat → Option Nat) (l : List (Nat × Nat)) (H : HeldL) (e : Ending) (W' : World) : Prop :=
  (∃ (E : Int) (x1 x2 x3 x4 x5 x6 : Value), e = .returned (.agg #[.int .i64 E, x1, x2, x3, x4, x5, x6]) ∧ (#[.int .i64 E, x1, x2, x3, x4, x5, x6] : Array Value).all (·.oneCell') = true ∧ (kd = 6 → E = 0 → ∃ z ∈ H, z.1 = hk9)) ∧ (∃ (l' : List (Nat × Nat)) (H' : HeldL), RM6 A W' m mu g' l' H' ∧ l'.length ≤ l.length + 1 ∧ H'.length ≤ H.length + up5 kd ∧ ∀ z ∈ H', z ∈ H ∨ z = (hd, g, l) ∧ kd = 5 ∧ hd ≠ 0) ∧ Chg (fun k => k = m) W W'
theorem DoneAny.quiet {A : Nat → Prop} {W : World} {m : Nat} {mu : Int} {kd : Int} {hk9 hd : Nat} {g : Nat → Option Nat} {l : List (Nat × Nat)} {H : HeldL} (h : RM6 A W m mu g l H) {E : Int} (hE : kd = 6 → E = 0 → ∃ z ∈ H, z.1 = hk9) {x1 x2 x3 x4 x5 x6 : Value} {e : Ending} {W' : World} (h1 : e = .returned (.agg #[.int .i64 E, x1, x2, x3, x4, x5, x6]) ∧ Chg (fun _ => False) W W') (ho : (#[.int .i64 E, x1, x2, x3, x4, x5, x6] : Array Value).all (·.oneCell') = true := by simp [Value.oneCell']) : DoneAny A W m mu kd hk9 hd g g l H e W' :=
  ⟨⟨_, _, _, _, _, _, _, h1.1, ho, hE⟩, ⟨l, H, h.quiet h1.2, by omega, Nat.le_add_right _ _, fun z hz => .inl hz⟩, h1.2.mono (fun _ _ x => x.elim)⟩
theorem withL_le (l : List (Nat × Nat)) (k x : Nat) : (withL l k x).length ≤ l.length + 1 := by
  unfold withL
  have h1 := congrArg List.length (List.takeWhile_append_dropWhile (p := fun y : Nat × Nat => decide (y.1 < k)) (l := l))
  have h2 := (List.dropWhile_sublist (fun y : Nat × Nat => y.1 == k) (l := l.dropWhile (fun y => decide (y.1 < k)))).length_le
  simp only [List.length_append, List.length_cons] at h1 ⊢
  omega
theorem holdB_len {β : Type} (H : List (Nat × β)) (h : Nat) (x : β) : (holdB H h x).length = H.length + 1 := by
  unfold holdB
  have h1 := congrArg List.length (List.takeWhile_append_dropWhile (p := fun y : Nat × β => decide (y.1 < h)) (l := H))
  simp only [List.length_append, List.length_cons] at h1 ⊢
  omega
theorem stepG_else {kd : Int} (h2 : kd ≠ 2) (h3 : kd ≠ 3) (h4 : kd ≠ 4) (g : Nat → Option Nat) (k x : Nat) (od : Int) : stepG kd g k x od = g := by
  unfold stepG
  rw [if_neg h2, if_neg h3, if_neg (fun h => h4 h.1)]
/-- A query, by the contract of any. -/
theorem DoneAny.query {A : Nat → Prop} {W : World} {m : Nat} {mu : Int} {kd : Int} {hk9 hd : Nat} (hk6 : kd ≠ 6) {g : Nat → Option Nat} {l : List (Nat × Nat)} {H : HeldL} (h : RM6 A W m mu g l H) {e : Ending} {W' : World} (h1 : (∃ w1 w2, Chg (fun _ => False) W w1 ∧ QAny w1 e w2 ∧ Chg (fun k => k < w1.heap.size) w2 W') ∧ Chg (fun _ => False) W W') : DoneAny A W m mu kd hk9 hd g g l H e W' := by
  obtain ⟨⟨w1, w2, -, ⟨⟨E, x1, x2, x3, x4, x5, x6, e, ho⟩, -⟩, -⟩, hc⟩ := h1
  exact DoneAny.quiet h (fun e6 => absurd e6 hk6) ⟨e, hc⟩ ho
theorem DoneAny.wrote {A : Nat → Prop} {W : World} {m : Nat} {mu : Int} {kd : Int} {hk9 hd : Nat} (hk6 : kd ≠ 6) {mv hv : Value} {Z : List Held6} {g g' : Nat → Option Nat} {l l' : List (Nat × Nat)} (h1 : RMod W m mu mv hv (Z.map (fun z => (z.1, z.2.1)))) (h4 : ∀ z ∈ Z, RL W z.2.1 z.2.2.1 z.2.2.2) (hl : l'.length ≤ l.length + 1) {E : Int} {x1 x2 x3 x4 x5 x6 : Value} {e : Ending} {W' : World} (hA : ∀ b, A b → b < W.heap.size) (h5 : (∀ b, mv.ownBlock = some b → ¬ A b) ∧ ∀ z ∈ Z, ∀ b, z.2.1.ownBlock = some b → ¬ A b) (h : Wrote W m mu hv (Z.map (fun z => (z.1, z.2.1))) #[.int .i64 E, x1, x2, x3, x4, x5, x6] g' l' e W') (ho : (#[.int .i64 E, x1, x2, x3, x4, x5, x6] : Array Value).all (·.oneCell') = true := by simp [Value.oneCell']) : DoneAny A W m mu kd hk9 hd g g' l (Z.map (fun z => (z.1, z.2.2))) e W' := by
  obtain ⟨e, ⟨v, hm, hr, hv9⟩, hc⟩ := h
  exact ⟨⟨_, _, _, _, _, _, _, e, ho, fun e6 => absurd e6 hk6⟩, ⟨l', _, RM6.map h1 h4 hm hr (fun b hb x => by have := hv9 b hb; have := hA b x; omega) h5.2 hc, hl, Nat.le_add_right _ _, fun z hz => .inl hz⟩, hc⟩
set_option maxHeartbeats 1000000 in
theorem do_any {A : Nat → Prop} {W : World} {m : Nat} {mu : Int} {g : Nat → Option Nat} {l : List (Nat × Nat)} {H : HeldL} (h : RM6 A W m mu g l H) (hgl : l.length ≤ 4398046510000) (hl : H.length ≤ 4000000) (hb : ∀ z ∈ H, z.2.2.length ≤ 4398046510000) (hA : ∀ b, A b → b < W.heap.size)
    {kd : Int} (hk1 : 1 ≤ kd) (hk2 : kd ≤ 10) {k x hk9 hd : Nat} (hk : k < 18446744073709551616) (hx : x < 18446744073709551616) (hdk : hd < 18446744073709551616) {od r6 r7 : Int} {r5 : Bool} {kp : Option Addr} {kn kc lo hi : Nat} {ks : List Nat} (hks : KeysAt W kp ks) (hkl : mu ≤ 4398046510000) (hkn : kn = ks.length) :
    Calls Try.prog 28 #[.pointer (some ⟨m, 0, none⟩), .agg #[.int .u8 kd, .int .u64 (k : Int), .int .u64 (x : Int), .int .u64 od, .int .u64 (hk9 : Int), .bool r5, .int .i64 r6, .int .i64 r7, .slice kp kn kc, .int .u64 (lo : Int), .int .u64 (hi : Int)], .int .u64 (hd : Int)] W (DoneAny A W m mu kd hk9 hd g (stepG kd g k x od) l H) := by
  obtain ⟨mv, hv, Z, h1, h2, rfl, h4, h5⟩ := h.ex
  have hlZ : Z.length ≤ 4000000 := by simpa using hl
  have hl2 : (Z.map (fun z => (z.1, z.2.1))).length ≤ 4000000 := by simpa using hl
  have hbZ : ∀ z ∈ Z, z.2.2.2.length ≤ 4398046510000 := fun z hz => hb (z.1, z.2.2) (List.mem_map.2 ⟨z, hz, rfl⟩)
  have hq : ∀ kd : Int, (kd = 7 ∨ kd = 8 ∨ kd = 9) → ∀ w, Chg (fun _ => False) W w → Calls Try.prog 53 #[.pointer (some ⟨m, 0, none⟩), .agg #[.int .u8 kd, .int .u64 (k : Int), .int .u64 (x : Int), .int .u64 od, .int .u64 (hk9 : Int), .bool r5, .int .i64 r6, .int .i64 r7, .slice kp kn kc, .int .u64 (lo : Int), .int .u64 (hi : Int)]] w fun e w' => (∃ x0 x1 x2 x3 x4 x5 x6, e = .returned (.agg #[x0, x1, x2, x3, x4, x5, x6]) ∧ (#[x0, x1, x2, x3, x4, x5, x6] : Array Value).all (·.oneCell') = true) ∧ QAny w e w' ∧ Chg (fun _ => False) w w' := fun kd hkd w hc =>
    (q_any (h1.quiet hc) (fun z hz => (h4 z hz).quiet hc) hlZ hbZ hkd (hks.chg hc (fun _ _ _ x => x)) hkl hkn).mono (fun e w' hh => ⟨by obtain ⟨⟨E, x1, x2, x3, x4, x5, x6, h⟩, -⟩ := hh; exact ⟨_, x1, x2, x3, x4, x5, x6, h⟩, hh, hh.2⟩)
  have cases : kd = 1 ∨ kd = 2 ∨ kd = 3 ∨ kd = 4 ∨ kd = 5 ∨ kd = 6 ∨ kd = 7 ∨ kd = 8 ∨ kd = 9 ∨ kd = 10 := by omega
  rcases cases with rfl | rfl | rfl | rfl | rfl | rfl | rfl | rfl | rfl | rfl
  · rw [stepG_else (by decide) (by decide) (by decide)]
    exact (d_get h1 h2 hgl hk).mono (fun e W' hh => DoneAny.quiet h (fun e6 => absurd e6 (by decide)) hh)
  · exact (d_put h1 h2 hgl hk hx (v := 0)).mono (fun e W' hh => by
      have : stepG 2 g k x od = updO g k (some x) := by unfold stepG; rw [if_pos rfl]
      rw [this]; exact DoneAny.wrote (by decide) h1 h4 (withL_le l k x) hA h5 hh)
  · exact (d_delete h1 h2 hgl hk).mono (fun e W' hh => by
      have : stepG 3 g k x od = updO g k none := by unfold stepG; rw [if_neg (by decide), if_pos rfl]
      rw [this]; exact DoneAny.wrote (by decide) h1 h4 (by have := List.length_filter_le (fun x : Nat × Nat => x.1 != k) l; omega) hA h5 hh)
  · by_cases hy : (g k).isSome = true ∧ (((g k).getD 0 : Nat) : Int) = od
    · exact (d_swap h1 h2 hgl hk hx hy.1 hy.2).mono (fun e W' hh => by
        have : stepG 4 g k x od = updO g k (some x) := by unfold stepG; rw [if_neg (by decide), if_neg (by decide), if_pos ⟨rfl, hy⟩]
        rw [this]; exact DoneAny.wrote (by decide) h1 h4 (withL_le l k x) hA h5 hh)
    · exact (d_swapno h1 h2 hgl hk hy).mono (fun e W' hh => by
        have : stepG 4 g k x od = g := by unfold stepG; rw [if_neg (by decide), if_neg (by decide), if_neg (fun h => hy h.2)]
        rw [this]; exact DoneAny.quiet h (fun e6 => absurd e6 (by decide)) hh)
  · rw [stepG_else (by decide) (by decide) (by decide)]
    by_cases hd0 : hd = 0
    · subst hd0
      exact (d_snap0 h1 h2 hgl hk).mono (fun e W' hh => DoneAny.quiet h (fun e6 => absurd e6 (by decide)) hh)
    · rcases place_cases (Z.map (fun z => (z.1, z.2.1))) hd with hp | ⟨i, hp, hi2, hi3⟩
      · refine (d_snaphold h1 h2 hgl hk hl2 hd0 hdk hp).mono ?_
        rintro e W' ⟨e, ⟨v2, hm⟩, hc⟩
        refine ⟨⟨_, _, _, _, _, _, _, e, by simp [Value.oneCell'], fun e6 => absurd e6 (by decide)⟩, ⟨l, _, RM6.hold h1 h2 h4 hm h5 hc, by omega, by rw [holdB_len]; simp [up5], fun z hz => ?_⟩, hc⟩
        rcases holdB_mem hz with rfl | hz
        · exact .inr ⟨rfl, rfl, hd0⟩
        · exact .inl hz
      · exact (d_snapfull h1 h2 hgl hk hl2 hd0 hp).mono (fun e W' hh => DoneAny.quiet h (fun e6 => absurd e6 (by decide)) hh)
  · rw [stepG_else (by decide) (by decide) (by decide)]
    rcases place_cases (Z.map (fun z => (z.1, z.2.1))) hk9 with hp | ⟨i, hp, hi2, hi3⟩
    · exact (d_relnone h1 h2 hgl hk hl2 hp).mono (fun e W' hh => DoneAny.quiet h (fun _ e => absurd e (by decide)) hh)
    · refine (d_reldrop h1 h2 hgl hk hl2 hp hi2).mono ?_
      rintro e W' ⟨e, ⟨v2, hm⟩, hc⟩
      have hi4 : i < Z.length := by simpa using hi2
      refine ⟨⟨_, _, _, _, _, _, _, e, by simp [Value.oneCell'], fun _ _ => ⟨(Z[i].1, Z[i].2.2), List.mem_map.2 ⟨Z[i], List.getElem_mem hi4, rfl⟩, by simpa using hi3⟩⟩, ⟨l, _, RM6.drop h1 h2 h4 hm h5 hc, by omega, Nat.le_trans (by simp only [List.length_append, List.length_take, List.length_drop]; omega) (Nat.le_add_right _ _), fun z hz => ?_⟩, hc⟩
      rcases List.mem_append.1 hz with hz | hz
      · exact .inl (List.mem_of_mem_take hz)
      · exact .inl (List.mem_of_mem_drop hz)
  · rw [stepG_else (by decide) (by decide) (by decide)]
    exact (d_query7 h1 h2 hgl hk (Pq := QAny) (hq 7 (by decide))).mono (fun e W' hh => DoneAny.query (by decide) h hh)
  · rw [stepG_else (by decide) (by decide) (by decide)]
    exact (d_query8 h1 h2 hgl hk (Pq := QAny) (hq 8 (by decide))).mono (fun e W' hh => DoneAny.query (by decide) h hh)
  · rw [stepG_else (by decide) (by decide) (by decide)]
    exact (d_query9 h1 h2 hgl hk (Pq := QAny) (hq 9 (by decide))).mono (fun e W' hh => DoneAny.query (by decide) h hh)
  · rw [stepG_else (by decide) (by decide) (by decide)]
    exact (d_collect h1 h2 hgl hk).mono (fun e W' hh => DoneAny.quiet h (fun e6 => absurd e6 (by decide)) hh)
end Go.Proofs.Ytahgaghokpicgaa
/- The document's model: Do of a kind that is none; Do of any kind. (mkD6v.py) -/
namespace Go.Proofs.Ytahgaghokpicgaa
open Go.RowKit Go.Maps
set_option linter.unusedVariables false

set_option maxRecDepth 100000 in
set_option maxHeartbeats 4000000 in
theorem d_none {W : World} {m : Nat} {mu : Int} {mv hv : Value} {hs : List (Nat × Value)} (H : RMod W m mu mv hv hs) {g : Nat → Option Nat} {l : List (Nat × Nat)} (hg : RL W mv g l) (hgl : l.length ≤ 4398046510000) {k : Nat} (hk : k < 18446744073709551616) {kd : Int} (n1 : ¬ kd = 1) (n2 : ¬ kd = 2) (n3 : ¬ kd = 3) (n4 : ¬ kd = 4) (n5 : ¬ kd = 5) (n6 : ¬ kd = 6) (n7 : ¬ kd = 7) (n8 : ¬ kd = 8) (n9 : ¬ kd = 9) (n10 : ¬ kd = 10) {hd : Int} {hk9 : Int} {v od r6 r7 lo hi : Int} {r5 : Bool} {kp : Option Addr} {kn kc : Nat} :
    Calls Try.prog 28 #[.pointer (some ⟨m, 0, none⟩), .agg #[.int .u8 kd, .int .u64 (k : Int), .int .u64 v, .int .u64 od, .int .u64 (hk9 : Int), .bool r5, .int .i64 r6, .int .i64 r7, .slice kp kn kc, .int .u64 lo, .int .u64 hi], .int .u64 hd] W (fun e W' => e = .returned (.agg #[.int .i64 160, .bool false, .int .u64 0, .bool false, .int .u64 0, .slice none 0 0, .int .u64 0]) ∧ Chg (fun _ => False) W W') := by
  have m1 : decide (kd = 1) = false := by simp; exact n1
  have m2 : decide (kd = 2) = false := by simp; exact n2
  have m3 : decide (kd = 3) = false := by simp; exact n3
  have m4 : decide (kd = 4) = false := by simp; exact n4
  have m5 : decide (kd = 5) = false := by simp; exact n5
  have m6 : decide (kd = 6) = false := by simp; exact n6
  have m7 : decide (kd = 7) = false := by simp; exact n7
  have m8 : decide (kd = 8) = false := by simp; exact n8
  have m9 : decide (kd = 9) = false := by simp; exact n9
  have m10 : decide (kd = 10) = false := by simp; exact n10
  have hlm := lt_of H.at_
  have HFD := keepH (fun w (hc : Chg (fun _ => False) W w) => r_findL (hg.quiet hc) hgl hk)
  obtain ⟨fv, hfv⟩ : ∃ fv, fv = (g k).getD 0 := ⟨_, rfl⟩
  obtain ⟨fb, hfb⟩ : ∃ fb, fb = (g k).isSome := ⟨_, rfl⟩
  rw [← hfv, ← hfb] at HFD
  have HFV := keepH hfv
  have HFB := keepH hfb
  have hQ1 : QX W m #[.int .i64 mu, mv, hv] W.heap.size (W.heap.size + 1) #[.int .u8 kd, .int .u64 (k : Int), .int .u64 v, .int .u64 od, .int .u64 (hk9 : Int), .bool r5, .int .i64 r6, .int .i64 r7, .slice kp kn kc, .int .u64 lo, .int .u64 hi] #[.int .i64 0, .bool false, .int .u64 0, .bool false, .int .u64 0, .slice none 0 0, .int .u64 0] ((W.alloc (.cells #[.int .u8 kd, .int .u64 (k : Int), .int .u64 v, .int .u64 od, .int .u64 (hk9 : Int), .bool r5, .int .i64 r6, .int .i64 r7, .slice kp kn kc, .int .u64 lo, .int .u64 hi] 34)).alloc (.cells #[.int .i64 0, .bool false, .int .u64 0, .bool false, .int .u64 0, .slice none 0 0, .int .u64 0] 38)) := QX.two W H.at_ _ _
  obtain ⟨w1, hw1⟩ : ∃ w1, w1 = (W.alloc (.cells #[.int .u8 kd, .int .u64 (k : Int), .int .u64 v, .int .u64 od, .int .u64 (hk9 : Int), .bool r5, .int .i64 r6, .int .i64 r7, .slice kp kn kc, .int .u64 lo, .int .u64 hi] 34)).alloc (.cells #[.int .i64 0, .bool false, .int .u64 0, .bool false, .int .u64 0, .slice none 0 0, .int .u64 0] 38) := ⟨_, rfl⟩
  obtain ⟨P, hP⟩ : ∃ P, P = W.heap.size := ⟨_, rfl⟩
  obtain ⟨R, hR⟩ : ∃ R, R = W.heap.size + 1 := ⟨_, rfl⟩
  rw [← hw1, ← hR, ← hP] at hQ1
  have HQ1 := keepH hQ1
  have HW1 := keepH hw1
  have HP := keepH hP
  have HR := keepH hR
  have HH := keepH H
  have HG := keepH hg
  have HGL := keepH hgl
  have HK := keepH hk
  have hlP : W.heap.size ≤ P := by omega
  clear H hg hgl hk hfv hfb hQ1 hw1 hP hR
  go_enter Try.func28, Try.ntmps28
  go_upto_region 1 with fail
  rw [show (W.alloc (.cells #[.int .u8 kd, .int .u64 (k : Int), .int .u64 v, .int .u64 od, .int .u64 (hk9 : Int), .bool r5, .int .i64 r6, .int .i64 r7, .slice kp kn kc, .int .u64 lo, .int .u64 hi] 34)).alloc (.cells #[.int .i64 0, .bool false, .int .u64 0, .bool false, .int .u64 0, .slice none 0 0, .int .u64 0] 38) = w1 from HW1.out.symm, ← HR.out, ← HP.out]
  clear HW1 HP HR
  go_upto_region 3 with fail
  have HS2 : Hid ((fun w => w.heap[m]? = some (.cells #[.int .i64 mu, mv, hv] 107 (0, 0)) ∧ w.heap[P]? = some (.cells #[.int .u8 kd, .int .u64 (k : Int), .int .u64 v, .int .u64 od, .int .u64 (hk9 : Int), .bool r5, .int .i64 r6, .int .i64 r7, .slice kp kn kc, .int .u64 lo, .int .u64 hi] 34 (0, 0))) w1.drew) := keepH ⟨HQ1.out.md, HQ1.out.ox⟩
  refine wp_region_held_drew (S := fun w => w.heap[m]? = some (.cells #[.int .i64 mu, mv, hv] 107 (0, 0)) ∧ w.heap[P]? = some (.cells #[.int .u8 kd, .int .u64 (k : Int), .int .u64 v, .int .u64 od, .int .u64 (hk9 : Int), .bool r5, .int .i64 r6, .int .i64 r7, .slice kp kn kc, .int .u64 lo, .int .u64 hi] 34 (0, 0))) (by kernel_rfl) (HS2.out) ?_
  intro hHeld
  refine wpAnyH_take (i := 0) (v := ?_) rfl (by kernel_rfl) (by kernel_rfl) (by kernel_rfl) (fun _ _ _ h => h) (Or.inl ⟨by rfl, ?_⟩) hHeld ?_
  rotate_left
  · intro w hSw
    (try dsimp only at hSw)
    go_simp
    try with_reducible rfl
  (try simp only [Act.put]); (try simp only [List.setIfInBounds_toArray]); (try simp only [List.getElem_toArray]); (repeat (first | simp only [List.getElem_cons_succ] | simp only [List.getElem_cons_zero])); (repeat (first | simp only [List.set_cons_succ] | simp only [List.set_cons_zero]))
  refine wpAnyH_take (i := 1) (v := ?_) rfl (by kernel_rfl) (by kernel_rfl) (by kernel_rfl) (fun _ _ _ h => h) (Or.inl ⟨by rfl, ?_⟩) hHeld ?_
  rotate_left
  · intro w hSw
    (try dsimp only at hSw)
    go_simp
    try with_reducible rfl
  (try simp only [Act.put]); (try simp only [List.setIfInBounds_toArray]); (try simp only [List.getElem_toArray]); (repeat (first | simp only [List.getElem_cons_succ] | simp only [List.getElem_cons_zero])); (repeat (first | simp only [List.set_cons_succ] | simp only [List.set_cons_zero]))
  refine wpAnyH_take (i := 2) (v := ?_) rfl (by kernel_rfl) (by kernel_rfl) (by kernel_rfl) (fun _ _ _ h => h) (Or.inl ⟨by rfl, ?_⟩) hHeld ?_
  rotate_left
  · intro w hSw
    (try dsimp only at hSw)
    go_simp
    try with_reducible rfl
  (try simp only [Act.put]); (try simp only [List.setIfInBounds_toArray]); (try simp only [List.getElem_toArray]); (repeat (first | simp only [List.getElem_cons_succ] | simp only [List.getElem_cons_zero])); (repeat (first | simp only [List.set_cons_succ] | simp only [List.set_cons_zero]))
  refine wpAnyH_take (i := 3) (v := ?_) rfl (by kernel_rfl) (by kernel_rfl) (by kernel_rfl) (fun _ _ _ h => h) (Or.inl ⟨by rfl, ?_⟩) hHeld ?_
  rotate_left
  · intro w hSw
    (try dsimp only at hSw)
    have y1 := cell_of hSw.1 1
    go_simp
    try with_reducible rfl
  (try simp only [Act.put]); (try simp only [List.setIfInBounds_toArray]); (try simp only [List.getElem_toArray]); (repeat (first | simp only [List.getElem_cons_succ] | simp only [List.getElem_cons_zero])); (repeat (first | simp only [List.set_cons_succ] | simp only [List.set_cons_zero]))
  refine wpAnyH_take (i := 4) (v := ?_) rfl (by kernel_rfl) (by kernel_rfl) (by kernel_rfl) (fun _ _ _ h => h) (Or.inl ⟨by rfl, ?_⟩) hHeld ?_
  rotate_left
  · intro w hSw
    (try dsimp only at hSw)
    go_simp
    try with_reducible rfl
  (try simp only [Act.put]); (try simp only [List.setIfInBounds_toArray]); (try simp only [List.getElem_toArray]); (repeat (first | simp only [List.getElem_cons_succ] | simp only [List.getElem_cons_zero])); (repeat (first | simp only [List.set_cons_succ] | simp only [List.set_cons_zero]))
  refine wpAnyH_take (i := 5) (v := ?_) rfl (by kernel_rfl) (by kernel_rfl) (by kernel_rfl) (fun _ _ _ h => h) (Or.inl ⟨by rfl, ?_⟩) hHeld ?_
  rotate_left
  · intro w hSw
    (try dsimp only at hSw)
    have z1 := cell_of hSw.2 1
    go_simp
    try with_reducible rfl
  (try simp only [Act.put]); (try simp only [List.setIfInBounds_toArray]); (try simp only [List.getElem_toArray]); (repeat (first | simp only [List.getElem_cons_succ] | simp only [List.getElem_cons_zero])); (repeat (first | simp only [List.set_cons_succ] | simp only [List.set_cons_zero]))
  refine wpAnyH_ready (rs := [6]) (by kernel_rfl) (by simp) ?_
  refine AllReadyH.cons rfl (fun KK hKK => ?_) AllReadyH.nil
  go_simp
  refine (HFD.out _ (chgF HQ1.out.ch (chg_dn (Chg.refl _ _) 1))).mono ?_
  rintro e w3 ⟨rfl, hw3⟩
  have HQ3 : Hid (QX W m #[.int .i64 mu, mv, hv] P R #[.int .u8 kd, .int .u64 (k : Int), .int .u64 v, .int .u64 od, .int .u64 (hk9 : Int), .bool r5, .int .i64 r6, .int .i64 r7, .slice kp kn kc, .int .u64 lo, .int .u64 hi] #[.int .i64 0, .bool false, .int .u64 0, .bool false, .int .u64 0, .slice none 0 0, .int .u64 0] w3) := keepH (by rw [hw3]; exact HQ1.out.on (chg_dn (Chg.refl _ _) 1))
  clear hw3
  have hcc := And.intro HQ3.out.md HQ3.out.ox
  refine hKK.out _ _ ?_ (fun hHeld => ?_)
  · exact hcc
  clear hKK KK
  (try simp only [Act.put]); (try simp only [List.setIfInBounds_toArray]); (try simp only [List.getElem_toArray]); (repeat (first | simp only [List.getElem_cons_succ] | simp only [List.getElem_cons_zero])); (repeat (first | simp only [List.set_cons_succ] | simp only [List.set_cons_zero]))
  refine wpAnyH_take (i := 7) (v := ?_) rfl (by kernel_rfl) (by kernel_rfl) (by kernel_rfl) (fun _ _ _ h => h) (Or.inl ⟨by rfl, ?_⟩) hHeld ?_
  rotate_left
  · intro w hSw
    (try dsimp only at hSw)
    go_simp
    try with_reducible rfl
  (try simp only [Act.put]); (try simp only [List.setIfInBounds_toArray]); (try simp only [List.getElem_toArray]); (repeat (first | simp only [List.getElem_cons_succ] | simp only [List.getElem_cons_zero])); (repeat (first | simp only [List.set_cons_succ] | simp only [List.set_cons_zero]))
  refine wpAnyH_take (i := 8) (v := ?_) rfl (by kernel_rfl) (by kernel_rfl) (by kernel_rfl) (fun _ _ _ h => h) (Or.inl ⟨by rfl, ?_⟩) hHeld ?_
  rotate_left
  · intro w hSw
    (try dsimp only at hSw)
    go_simp
    try with_reducible rfl
  (try simp only [Act.put]); (try simp only [List.setIfInBounds_toArray]); (try simp only [List.getElem_toArray]); (repeat (first | simp only [List.getElem_cons_succ] | simp only [List.getElem_cons_zero])); (repeat (first | simp only [List.set_cons_succ] | simp only [List.set_cons_zero]))
  refine wpAnyH_take (i := 9) (v := ?_) rfl (by kernel_rfl) (by kernel_rfl) (by kernel_rfl) (fun _ _ _ h => h) (Or.inl ⟨by rfl, ?_⟩) hHeld ?_
  rotate_left
  · intro w hSw
    (try dsimp only at hSw)
    go_simp
    try with_reducible rfl
  (try simp only [Act.put]); (try simp only [List.setIfInBounds_toArray]); (try simp only [List.getElem_toArray]); (repeat (first | simp only [List.getElem_cons_succ] | simp only [List.getElem_cons_zero])); (repeat (first | simp only [List.set_cons_succ] | simp only [List.set_cons_zero]))
  refine wpAnyH_take (i := 10) (v := ?_) rfl (by kernel_rfl) (by kernel_rfl) (by kernel_rfl) (fun _ _ _ h => h) (Or.inl ⟨by rfl, ?_⟩) hHeld ?_
  rotate_left
  · intro w hSw
    (try dsimp only at hSw)
    go_simp
    try with_reducible rfl
  (try simp only [Act.put]); (try simp only [List.setIfInBounds_toArray]); (try simp only [List.getElem_toArray]); (repeat (first | simp only [List.getElem_cons_succ] | simp only [List.getElem_cons_zero])); (repeat (first | simp only [List.set_cons_succ] | simp only [List.set_cons_zero]))
  refine wpAnyH_take (i := 11) (v := ?_) rfl (by kernel_rfl) (by kernel_rfl) (by kernel_rfl) (fun _ _ _ h => h) (Or.inl ⟨by rfl, ?_⟩) hHeld ?_
  rotate_left
  · intro w hSw
    (try dsimp only at hSw)
    go_simp
    try with_reducible rfl
  (try simp only [Act.put]); (try simp only [List.setIfInBounds_toArray]); (try simp only [List.getElem_toArray]); (repeat (first | simp only [List.getElem_cons_succ] | simp only [List.getElem_cons_zero])); (repeat (first | simp only [List.set_cons_succ] | simp only [List.set_cons_zero]))
  refine wpAnyH_done (by kernel_rfl) ?_ _
  go_simp
  clear hHeld HFD HQ1 HS2
  go_upto_region 5 with fail
  obtain ⟨w4, hw4⟩ : ∃ w4, w4 = w3.alloc (.cells #[.int .i64 0, .bool fb, .int .u64 (fv : Int), .bool false, .int .u64 0, .slice none 0 0, .int .u64 0] 38) := ⟨_, rfl⟩
  obtain ⟨A, hA⟩ : ∃ A, A = w3.heap.size := ⟨_, rfl⟩
  have HQ4 : Hid (QX W m #[.int .i64 mu, mv, hv] P R #[.int .u8 kd, .int .u64 (k : Int), .int .u64 v, .int .u64 od, .int .u64 (hk9 : Int), .bool r5, .int .i64 r6, .int .i64 r7, .slice kp kn kc, .int .u64 lo, .int .u64 hi] #[.int .i64 0, .bool false, .int .u64 0, .bool false, .int .u64 0, .slice none 0 0, .int .u64 0] w4) := keepH (by rw [hw4]; exact HQ3.out.on ((Chg.refl _ _).alloc _))
  have HA : Hid (w4.heap[A]? = some (.cells #[.int .i64 0, .bool fb, .int .u64 (fv : Int), .bool false, .int .u64 0, .slice none 0 0, .int .u64 0] 38 (0, 0))) := keepH (by rw [hw4, hA]; exact heap_alloc_new _ _)
  have hAR : A ≠ R := by have := lt_of HQ3.out.ax; omega
  have hAl : W.heap.size ≤ A := by have := HQ3.out.ch.size; omega
  rw [← hw4, ← hA]
  clear hcc HQ3 hw4 hA
  have p0 : w4.cell? ⟨P, 0, none⟩ = _ := cell_of HQ4.out.ox 0
  go_wp2_with (refine wpList_store_mid rfl 38 (.tmp 6) (.tmp 121) rfl R 0 #[.int .i64 160, .bool false, .int .u64 0, .bool false, .int .u64 0, .slice none 0 0, .int .u64 0] rfl rfl HQ4.out.there (by kernel_rfl) (by simp [Value.oneCell']) ?_; have HQ9 := keepH (HQ4.out.seven (.int .i64 160) (.bool false) (.int .u64 0) (.bool false) (.int .u64 0) (.slice none 0 0) (.int .u64 0)))
  have e0 := cell_of HQ9.out.ax 0
  have e1 := cell_of HQ9.out.ax 1
  have e2 := cell_of HQ9.out.ax 2
  have e3 := cell_of HQ9.out.ax 3
  have e4 := cell_of HQ9.out.ax 4
  have e5 := cell_of HQ9.out.ax 5
  have e6 := cell_of HQ9.out.ax 6
  simp at e0 e1 e2 e3 e4 e5 e6
  go_wp2_with fail
  refine bodyPost_ret (v := .agg #[.int .i64 160, .bool false, .int .u64 0, .bool false, .int .u64 0, .slice none 0 0, .int .u64 0]) (by simp [results, Try.results28, go_sem, e0, e1, e2, e3, e4, e5, e6]) rfl ?_
  exact ⟨rfl, HQ9.out.ch⟩
theorem do_all6 {A : Nat → Prop} {W : World} {m : Nat} {mu : Int} {g : Nat → Option Nat} {l : List (Nat × Nat)} {H : HeldL} (h : RM6 A W m mu g l H) (hgl : l.length ≤ 4398046510000) (hl : H.length ≤ 4000000) (hb : ∀ z ∈ H, z.2.2.length ≤ 4398046510000) (hA : ∀ b, A b → b < W.heap.size)
    {kd : Int} {k x hk9 hd : Nat} (hk : k < 18446744073709551616) (hx : x < 18446744073709551616) (hdk : hd < 18446744073709551616) {od r6 r7 : Int} {r5 : Bool} {kp : Option Addr} {kn kc lo hi : Nat} {ks : List Nat} (hks : KeysAt W kp ks) (hkl : mu ≤ 4398046510000) (hkn : kn = ks.length) :
    Calls Try.prog 28 #[.pointer (some ⟨m, 0, none⟩), .agg #[.int .u8 kd, .int .u64 (k : Int), .int .u64 (x : Int), .int .u64 od, .int .u64 (hk9 : Int), .bool r5, .int .i64 r6, .int .i64 r7, .slice kp kn kc, .int .u64 (lo : Int), .int .u64 (hi : Int)], .int .u64 (hd : Int)] W (DoneAny A W m mu kd hk9 hd g (stepG kd g k x od) l H) := by
  by_cases hr : 1 ≤ kd ∧ kd ≤ 10
  · exact do_any h hgl hl hb hA hr.1 hr.2 hk hx hdk hks hkl hkn
  · obtain ⟨mv, hv, Z, h1, h2, rfl, h4, h5⟩ := h.ex
    rw [stepG_else (by omega) (by omega) (by omega)]
    exact (d_none h1 h2 hgl hk (by omega) (by omega) (by omega) (by omega) (by omega) (by omega) (by omega) (by omega) (by omega) (by omega)).mono (fun e W' hh => DoneAny.quiet h (fun e6 => absurd e6 (by omega)) hh)
end Go.Proofs.Ytahgaghokpicgaa
