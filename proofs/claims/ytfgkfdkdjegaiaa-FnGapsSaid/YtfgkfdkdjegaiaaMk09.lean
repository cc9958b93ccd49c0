/-
  JOINED TEXTS, each under its own namespace line: Trip, TTP, Text.
-/
import Derived.Test.YtfgkfdkdjegaiaaMk01
import Derived.Test.YtfgkfdkdjegaiaaInts
import Derived.WalkKit
import Derived.Test.YtfgkfdkdjegaiaaMk04
import Derived.Test.YtfgkfdkdjegaiaaSpanP
import Derived.Test.YtfgkfdkdjegaiaaRows
import Derived.LoopTactic
import Derived.WalkLawsBesides
import Derived.Lib.Hide
import Derived.BigQuiet
import Derived.OwnWalk
namespace Go.Proofs.Ytfgkfdkdjegaiaa
open Go.RowKit Go.ChangeShapes Go.WideShapes Go.ChangeAt Go.Deep Go.Joins
set_option linter.unusedVariables false

structure TripD where
  id : Int
  line : Int
  start : Int
deriving DecidableEq
def tripV (s : TripD) : Value := .agg #[.int .i64 s.id, .int .i64 s.line, .int .i64 s.start]
def TripWf (s : TripD) : Prop := (Lit.int .i64 s.id).wf = true ∧ (Lit.int .i64 s.line).wf = true ∧ (Lit.int .i64 s.start).wf = true
/-- a slice value of as many trips as xs -/
def TripsAt (w : World) (v : Value) (xs : List TripD) : Prop :=
  ∃ a c, v = .slice a xs.length c ∧ xs.length ≤ c ∧ c ≤ maxLen ∧ ∀ k (hk : k < xs.length), ∃ b off, a = some ⟨b, off, none⟩ ∧ b < w.heap.size ∧ w.cell? ⟨b, off + k * 3, none⟩ = some (.int .i64 xs[k].id) ∧ w.cell? ⟨b, off + k * 3 + 1, none⟩ = some (.int .i64 xs[k].line) ∧ w.cell? ⟨b, off + k * 3 + 2, none⟩ = some (.int .i64 xs[k].start)
theorem TripsAt.below {w w' : World} {v : Value} {xs : List TripD} (h : TripsAt w v xs) {B : Nat} (hB : B = w.heap.size) (hb : Below B w w') : TripsAt w' v xs := by
  subst hB
  obtain ⟨a, c, hv, h1, h2, h3⟩ := h
  refine ⟨a, c, hv, h1, h2, fun k hk => ?_⟩
  obtain ⟨b, off, ha, hlt, c0, c1, c2⟩ := h3 k hk
  exact ⟨b, off, ha, Nat.lt_of_lt_of_le hlt hb.size, bkeep hb c0, bkeep hb c1, bkeep hb c2⟩
theorem trips_open {w : World} {v : Value} {xs : List TripD} (h : TripsAt w v xs) : ∃ a c, v = .slice a xs.length c ∧ xs.length ≤ c ∧ c ≤ 9223372036854775807 ∧
    Hid (∀ k (hk : k < xs.length), ∃ b off, a = some ⟨b, off, none⟩ ∧ b < w.heap.size ∧ w.cell? ⟨b, off + k * 3, none⟩ = some (.int .i64 xs[k].id) ∧ w.cell? ⟨b, off + k * 3 + 1, none⟩ = some (.int .i64 xs[k].line) ∧ w.cell? ⟨b, off + k * 3 + 2, none⟩ = some (.int .i64 xs[k].start)) := by
  obtain ⟨a, c, rfl, h1, h2, h3⟩ := h
  exact ⟨a, c, rfl, h1, h2, h3⟩
theorem TripS_open {w : World} {v : Value} {xs : List TripD} (h : TripsAt w v xs) : ∃ a c, v = .slice a xs.length c := by
  obtain ⟨a, c, rfl, _⟩ := h; exact ⟨a, c, rfl⟩

/-! the cells of trips, one behind the other -/
def tripC : List TripD → List Value
  | [] => []
  | s :: xs => .int .i64 s.id :: .int .i64 s.line :: .int .i64 s.start :: tripC xs
theorem tripC_len : ∀ xs : List TripD, (tripC xs).length = xs.length * 3
  | [] => rfl
  | s :: xs => by simp only [tripC, List.length_cons]; rw [tripC_len xs]; omega
theorem tripC_append : ∀ xs ys : List TripD, tripC (xs ++ ys) = tripC xs ++ tripC ys
  | [], ys => rfl
  | s :: xs, ys => by simp only [tripC, List.cons_append]; rw [tripC_append xs ys]
theorem tripC_get0 : ∀ (xs : List TripD) (k : Nat) (hk : k < xs.length), (tripC xs)[k * 3]? = some (.int .i64 xs[k].id)
  | s :: xs, 0, _ => rfl
  | s :: xs, k + 1, hk => by
    have := tripC_get0 xs k (by simpa using hk)
    rw [show (k + 1) * 3 = k * 3 + 1 + 1 + 1 by omega]
    simpa [tripC] using this
theorem tripC_get1 : ∀ (xs : List TripD) (k : Nat) (hk : k < xs.length), (tripC xs)[k * 3 + 1]? = some (.int .i64 xs[k].line)
  | s :: xs, 0, _ => rfl
  | s :: xs, k + 1, hk => by
    have := tripC_get1 xs k (by simpa using hk)
    rw [show (k + 1) * 3 + 1 = k * 3 + 1 + 1 + 1 + 1 by omega]
    simpa [tripC] using this
theorem tripC_get2 : ∀ (xs : List TripD) (k : Nat) (hk : k < xs.length), (tripC xs)[k * 3 + 2]? = some (.int .i64 xs[k].start)
  | s :: xs, 0, _ => rfl
  | s :: xs, k + 1, hk => by
    have := tripC_get2 xs k (by simpa using hk)
    rw [show (k + 1) * 3 + 2 = k * 3 + 2 + 1 + 1 + 1 by omega]
    simpa [tripC] using this
theorem tripC_set : ∀ (xs : List TripD) (k : Nat) (s : TripD) (hk : k < xs.length), (((tripC xs).set (k * 3) (.int .i64 s.id)).set (k * 3 + 1) (.int .i64 s.line)).set (k * 3 + 2) (.int .i64 s.start) = tripC (xs.set k s)
  | x :: xs, 0, s, _ => rfl
  | x :: xs, k + 1, s, hk => by
    have := tripC_set xs k s (by simpa using hk)
    rw [show (k + 1) * 3 = k * 3 + 1 + 1 + 1 by omega, show k * 3 + 1 + 1 + 1 + 1 = k * 3 + 1 + 1 + 1 + 1 from rfl, show k * 3 + 1 + 1 + 1 + 2 = k * 3 + 2 + 1 + 1 + 1 by omega]
    simpa [tripC] using this
theorem tripC_one : ∀ (w : World) (s : TripD) (t : TypeId), ∀ j x, (tripC [s])[j]? = some x → (w.alloc (.cells #[.int .i64 s.id, .int .i64 s.line, .int .i64 s.start] t)).cell? ((⟨w.heap.size, 0, none⟩ : Addr).add j) = some x := by
  intro w s t j x hx
  rw [addr_add, Nat.zero_add]
  match j, hx with
  | 0, hx => simp [tripC] at hx; subst hx; simp
  | 1, hx => simp [tripC] at hx; subst hx; simp
  | 2, hx => simp [tripC] at hx; subst hx; simp
  | j + 3, hx => simp [tripC] at hx
theorem tripC_cells (xs : List TripD) : ∀ u ∈ tripC xs, u.oneCell' = true := by
  induction xs with
  | nil => simp [tripC]
  | cons s xs ih =>
    intro u hu
    simp only [tripC, List.mem_cons] at hu
    rcases hu with rfl | rfl | rfl | hu
    · rfl
    · rfl
    · rfl
    · exact ih u hu

theorem tripsAt_own {w : World} {B : Nat} {e : TypeId} {v : Value} {xs : List TripD} (h : w.ownsRow B e 3 v xs.length (tripC xs)) : TripsAt w v xs := by
  have hc := fun g hg => h.cells (g := g) hg
  have hl := h.lt
  obtain ⟨hn, h2⟩ := h
  rcases h2 with ⟨hv, h0⟩ | ⟨g, cap, cur, hv, hg, hh, h1, h3, h4, h5⟩
  · have : xs = [] := List.eq_nil_of_length_eq_zero h0
    subst this
    exact ⟨none, 0, hv, Nat.le_refl _, by decide, fun k hk => by simp at hk⟩
  · refine ⟨_, cap, hv, h1, h3, fun k hk => ⟨g, 0, rfl, (hl g (by rw [hv]; rfl)).2, ?_, ?_, ?_⟩⟩
    · have := hc g (by rw [hv]; rfl) (k * 3) _ (tripC_get0 xs k hk)
      rw [addr_add] at this; exact this
    · have := hc g (by rw [hv]; rfl) (k * 3 + 1) _ (tripC_get1 xs k hk)
      rw [addr_add] at this; exact this
    · have := hc g (by rw [hv]; rfl) (k * 3 + 2) _ (tripC_get2 xs k hk)
      rw [addr_add] at this; exact this
section
variable {H : Type} {enc : TypeId × Value → H} {P : Program} {w : World} {base : Nat} {spare : Nat → Bool} {held : Bool}

theorem trips_trod {t e : TypeId} {f0 f1 f2 : Field} {n : Nat} {v : Value} {x : DataW H × List MemPlace} (ht : P.underlying t = some (.slice e)) (he : P.underlying e = some (.struct #[f0, f1, f2]))
    (hone : oneCellFields P #[f0, f1, f2] = true) (hc : P.cellsOf e = 3) (h0 : P.underlying f0.type = some (.int .i64)) (h1 : P.underlying f1.type = some (.int .i64)) (h2 : P.underlying f2.type = some (.int .i64))
    (h : DataW.trod enc P w base spare held n t [v] = some x) : ∃ ls : List TripD, TripsAt w v ls ∧ ∀ l ∈ ls, TripWf l := by
  rcases open_slice ht h with ⟨hcs, _⟩ | ⟨a, len, cap, m, n', D, Pl, hcs, _, hl, hm, hmm, _, hel⟩
  · simp at hcs; subst hcs
    exact ⟨[], ⟨none, 0, rfl, Nat.le_refl _, by decide, fun k hk => by simp at hk⟩, fun x hx => by simp at hx⟩
  · simp at hcs; subst hcs
    have hml : len ≤ m := by rw [hmm]; split <;> omega
    have hsp : ∀ k, k < len → a.spot = none := fun k hk => by
      obtain ⟨cs', hcc, htt⟩ := hel 0 (by omega)
      obtain ⟨_, hcl, hat⟩ := World.cells?_some hcc
      have := hat 0 (by omega)
      have hq : cs'[0]? = some (cs'[0]'(by omega)) := List.getElem?_eq_getElem _
      rw [hq] at this
      have := World.cell?_spot this
      simpa [Addr.add] using this
    have each : ∀ k, k < len → ∃ l : TripD, (w.cell? ⟨a.block, a.off + k * 3, none⟩ = some (.int .i64 l.id) ∧ w.cell? ⟨a.block, a.off + k * 3 + 1, none⟩ = some (.int .i64 l.line) ∧ w.cell? ⟨a.block, a.off + k * 3 + 2, none⟩ = some (.int .i64 l.start)) ∧ TripWf l := fun k hk => by
      obtain ⟨cs', hcc, htt⟩ := hel k (by omega)
      obtain ⟨_, hcl, hat⟩ := World.cells?_some hcc
      obtain ⟨ys, n2, _, _, _, hylen, hg⟩ := DataW.trod_struct he htt
      have hs := hsp k hk
      obtain ⟨b, off, sp⟩ := a
      simp only at hs
      subst hs
      rw [hc] at hcl hat
      match cs', hcl with
      | [c0, c1, c2], _ =>
        obtain ⟨o0, k0⟩ := hone_of hone 0 f0 rfl
        obtain ⟨o1, k1⟩ := hone_of hone 1 f1 rfl
        obtain ⟨o2, k2⟩ := hone_of hone 2 f2 rfl
        have g0 := hg 0 f0 rfl
        have g1 := hg 1 f1 rfl
        have g2 := hg 2 f2 rfl
        rw [o0, k0] at g0
        rw [o1, k1] at g1
        rw [o2, k2] at g2
        simp only [List.drop_zero, List.drop_succ_cons, List.take_succ_cons, List.take_zero] at g0 g1 g2
        have hy : ys.length = 3 := hylen
        rw [List.getElem?_eq_getElem (by omega)] at g0 g1 g2
        obtain ⟨p, hp, _, hpw⟩ := DataW.trod_int h0 g0
        obtain ⟨q, hq, _, hqw⟩ := DataW.trod_int h1 g1
        obtain ⟨r, hr, _, hrw⟩ := DataW.trod_int h2 g2
        simp at hp hq hr
        subst hp hq hr
        refine ⟨⟨p, q, r⟩, ⟨?_, ?_, ?_⟩, hpw, hqw, hrw⟩
        · have := hat 0 (by omega); rw [addr_add, addr_add] at this; simpa [hc] using this
        · have := hat 1 (by omega); rw [addr_add, addr_add] at this; simpa [hc] using this
        · have := hat 2 (by omega); rw [addr_add, addr_add] at this; simpa [hc] using this
    have fam : ∃ F : Nat → TripD, ∀ k, k < len → (w.cell? ⟨a.block, a.off + k * 3, none⟩ = some (.int .i64 (F k).id) ∧ w.cell? ⟨a.block, a.off + k * 3 + 1, none⟩ = some (.int .i64 (F k).line) ∧ w.cell? ⟨a.block, a.off + k * 3 + 2, none⟩ = some (.int .i64 (F k).start)) ∧ TripWf (F k) :=
      ⟨fun k => if hk : k < len then Classical.choose (each k hk) else ⟨0, 0, 0⟩, fun k hk => by simp only [dif_pos hk]; exact Classical.choose_spec (each k hk)⟩
    obtain ⟨F, hF⟩ := fam
    refine ⟨(List.range len).map F, ⟨some a, cap, by simp, by simp; omega, hm, fun k hk => ?_⟩, fun l hl => ?_⟩
    · have hk' : k < len := by simpa using hk
      have e : ((List.range len).map F)[k] = F k := by simp
      have hs := hsp k hk'
      have h3 := hF k hk'
      rw [e]
      obtain ⟨b, off, sp⟩ := a
      simp only at hs
      subst hs
      exact ⟨b, off, rfl, World.block_lt_of_cell? w _ h3.1.1, h3.1.1, h3.1.2.1, h3.1.2.2⟩
    · obtain ⟨k, hk, rfl⟩ := List.mem_map.1 hl
      exact (hF k (List.mem_range.1 hk)).2
end
end Go.Proofs.Ytfgkfdkdjegaiaa

namespace Go.Proofs.Ytfgkfdkdjegaiaa
set_option linter.unusedVariables false

structure TTD where
  net : NetD
  trips : List TripD

/-- the minutes of a trip's whole line -/
def allRun (n : NetD) (x : TripD) : Int := ((n.lines[x.line.toNat]?).map (fun l => l.runs.sum)).getD 0
theorem allRun_at {n : NetD} {x : TripD} {i : Nat} (hx : x.line = i) (h : i < n.lines.length) : allRun n x = (n.lines[i]'h).runs.sum := by
  unfold allRun; rw [hx]; simp [h]
def arrF (n : NetD) (x : TripD) : Int := x.start + allRun n x
def CanRun (n : NetD) (x : TripD) : Prop := (0 ≤ x.line ∧ x.line < n.lines.length) ∧ TimeOk x.start ∧ TimeOk (arrF n x)
def TripStep (t : TTD) (k : Nat) (h : k < t.trips.length) : Prop :=
  1 ≤ t.trips[k].id ∧ t.trips[k].id ≤ 999 ∧ CanRun t.net t.trips[k] ∧ ∀ j (hj : j + 1 = k), (t.trips[j]'(by omega)).id < t.trips[k].id
def TripsTo (t : TTD) (k : Nat) : Prop := ∀ j (h : j < t.trips.length), j < k → TripStep t j h
def TTGood (t : TTD) : Prop := NetGood t.net ∧ t.trips.length ≤ 12 ∧ TripsTo t t.trips.length
noncomputable instance (t : TTD) : Decidable (TTGood t) := Classical.propDecidable _
noncomputable def ttB (t : TTD) : Bool := decide (TTGood t)
theorem ttB_yes {t : TTD} (h : TTGood t) : ttB t = true := decide_eq_true h
theorem ttB_no {t : TTD} (h : ¬ TTGood t) : ttB t = false := decide_eq_false h
theorem tripsTo_succ {t : TTD} {k : Nat} (hk : k < t.trips.length) (h : TripsTo t k) (h1 : TripStep t k hk) : TripsTo t (k + 1) := by
  intro j hj hjk
  by_cases e : j = k
  · subst e; exact h1
  · exact h j hj (by omega)
/-- the Id ahead of a place, 0 ahead of the first -/
def lastId (t : TTD) : Nat → Int
  | 0 => 0
  | k + 1 => ((t.trips[k]?).map (fun x => x.id)).getD 0
theorem lastId_succ {t : TTD} {k : Nat} (h : k < t.trips.length) : lastId t (k + 1) = (t.trips[k]'h).id := by simp [lastId, h]
theorem step_of {t : TTD} {k : Nat} (hk : k < t.trips.length) (h : TripsTo t k) (h1 : lastId t k < (t.trips[k]'hk).id) (h2 : (t.trips[k]'hk).id ≤ 999) (h3 : CanRun t.net (t.trips[k]'hk)) : TripStep t k hk := by
  cases k with
  | zero => exact ⟨by simp only [lastId] at h1; omega, h2, h3, fun j hj => by omega⟩
  | succ j =>
    rw [lastId_succ (by omega)] at h1
    have := (h j (by omega) (by omega)).1
    refine ⟨by omega, h2, h3, fun i hi => ?_⟩
    obtain rfl : i = j := by omega
    exact h1
theorem step_last {t : TTD} {k : Nat} (hk : k < t.trips.length) (h : TripStep t k hk) : lastId t k < (t.trips[k]'hk).id := by
  cases k with
  | zero => have := h.1; simp only [lastId]; omega
  | succ j => rw [lastId_succ (by omega)]; exact h.2.2.2 j rfl
theorem ids_lt {t : TTD} (h : TripsTo t t.trips.length) : ∀ (d i : Nat) (h2 : i + d + 1 < t.trips.length), (t.trips[i]'(by omega)).id < (t.trips[i + d + 1]'h2).id
  | 0, i, h2 => (h (i + 1) h2 h2).2.2.2 i rfl
  | d + 1, i, h2 => by
    have h3 := ids_lt h d i (by omega)
    have h4 := (h (i + d + 1 + 1) (by omega) (by omega)).2.2.2 (i + d + 1) rfl
    have e : i + (d + 1) + 1 = i + d + 1 + 1 := by omega
    simp only [e]
    omega
theorem TTGood.asc {t : TTD} (h : TTGood t) (i j : Nat) (hij : i < j) (hj : j < t.trips.length) : (t.trips[i]'(by omega)).id < (t.trips[j]'hj).id := by
  have := ids_lt h.2.2 (j - i - 1) i (by omega)
  have e : i + (j - i - 1) + 1 = j := by omega
  simp only [e] at this
  exact this
theorem TTGood.step {t : TTD} (h : TTGood t) (k : Nat) (hk : k < t.trips.length) : TripStep t k hk := h.2.2 k hk hk
theorem TTGood.line {t : TTD} (h : TTGood t) (k : Nat) (hk : k < t.trips.length) : ∃ i : Nat, (t.trips[k]'hk).line = i ∧ ∃ hi : i < t.net.lines.length, arrF t.net (t.trips[k]'hk) = (t.trips[k]'hk).start + (t.net.lines[i]'hi).runs.sum := by
  have hs := (h.step k hk).2.2.1.1
  obtain ⟨i, hi⟩ := Int.eq_ofNat_of_zero_le hs.1
  have hlt : i < t.net.lines.length := by omega
  exact ⟨i, hi, hlt, by unfold arrF; rw [allRun_at hi hlt]⟩
/-- the place of an Id, or -1 -/
def idIdx (t : TTD) (id : Int) : Int := fstIdx id (t.trips.map (fun x => x.id))
end Go.Proofs.Ytfgkfdkdjegaiaa

namespace Go.Proofs.Ytfgkfdkdjegaiaa
open Go.RowKit
set_option linter.unusedVariables false

theorem infoString : (Try.prog.info? 9).map (fun i => (i.zero, i.size, i.bytes)) = some (some (.string ⟨#[]⟩), 1, 16) := by kernel_rfl

/-- the letters of all strings together -/
def sumSz (xs : List ByteArray) : Nat := (xs.map (·.size)).sum
theorem sumSz_take (xs : List ByteArray) (k : Nat) (h : k < xs.length) : sumSz (xs.take (k + 1)) = sumSz (xs.take k) + (xs[k]'h).size := by
  rw [List.take_succ_eq_append_getElem h]; simp only [sumSz, List.map_append, List.sum_append, List.map_cons, List.map_nil, List.sum_cons, List.sum_nil]; omega
theorem sumSz_le (xs : List ByteArray) (k : Nat) : sumSz (xs.take k) ≤ sumSz xs := by
  have : sumSz xs = sumSz (xs.take k) + sumSz (xs.drop k) := by
    conv => lhs; rw [← List.take_append_drop k xs]
    simp only [sumSz, List.map_append, List.sum_append]
  omega

theorem str_at {w : World} {a : Option Addr} {xs : List ByteArray} (h : ∀ k u, (xs.map Value.string)[k]? = some u → ∃ b off, a = some ⟨b, off, none⟩ ∧ b < w.heap.size ∧ w.cell? ⟨b, off + k, none⟩ = some u) (k : Nat) (hk : k < xs.length) :
    ∃ b off, a = some ⟨b, off, none⟩ ∧ b < w.heap.size ∧ w.cell? ⟨b, off + k, none⟩ = some (.string (xs[k]'hk)) := h k _ (by simp [List.getElem?_eq_getElem hk])

set_option maxHeartbeats 1000000 in
theorem szStringS_any (v : Value) (xs : List ByteArray) (left : Int) (w : World) (hr : RowAt w v (xs.map .string)) (hx : ∀ x ∈ xs, x.size ≤ maxLen) (h0 : 0 ≤ left) (h1 : left ≤ 1048576) :
    Calls Try.prog 84 #[v, .int .i64 left] w fun e w' => (∃ r : Int, e = .returned (.int .i64 r) ∧ (r = -1 ∨ (0 ≤ r ∧ (xs.length : Int) + sumSz xs + r = left))) ∧ w = w' := by
  obtain ⟨a, c, rfl, hc, hm, hcell⟩ := hr
  rw [List.length_map] at hc ⊢
  unfold maxLen at hm hx
  have HC := Lib.hid hcell
  clear hcell
  by_cases hneg : left - (xs.length : Int) < 0
  · go_enter Try.func84, Try.ntmps84
    go_wp2
    go_ret
    exact ⟨⟨-1, rfl, .inl rfl⟩, rfl⟩
  · go_enter Try.func84, Try.ntmps84
    go_wp2
    go_loop [1, 5] (fun l i => ∃ k : Nat, k ≤ xs.length ∧ i = .int .i64 k ∧ ∃ r : Int, l = .int .i64 r ∧ 0 ≤ r ∧ Hid ((xs.length : Int) + sumSz (xs.take k) + r = left) ∧ r ≤ 1048576) (fun _ i => xs.length - (RowKit.intOf i).toNat)
    case atStart => exact ⟨0, Nat.zero_le _, rfl, _, rfl, by omega, by show _ = _; simp [sumSz]; omega, by omega⟩
    case round =>
      obtain ⟨k, hk, rfl, r, rfl, hr0, HR, hr1⟩ := hrel
      by_cases hlt : k < xs.length
      · obtain ⟨b, off, rfl, _, hcx⟩ := str_at HC.out k hlt
        have hsz := hx _ (List.getElem_mem hlt)
        have HS := Lib.hid (sumSz_take xs k hlt)
        generalize xs[k] = y at *
        by_cases hn : r - (y.size : Int) < 0
        · go_wp2
          go_ret
          exact ⟨⟨-1, rfl, .inl rfl⟩, rfl⟩
        · go_wp2
          go_round
          case rel => exact ⟨k + 1, by omega, by go_num, _, rfl, by omega, by have := HR.out; have := HS.out; show _ = _; omega, by omega⟩
          case measure => simp [RowKit.intOf]; omega
      · go_wp2
        go_ret
        exact ⟨⟨r, rfl, .inr ⟨hr0, by have := HR.out; rw [List.take_of_length_le (by omega)] at this; exact this⟩⟩, rfl⟩

set_option maxHeartbeats 1000000 in
theorem toStringS_any (v : Value) (xs : List ByteArray) (w : World) (hr : RowAt w v (xs.map .string)) (hn : xs.length ≤ 1048576) :
    Calls Try.prog 86 #[v] w fun e w' => ∃ v', e = .returned v' ∧ w'.ownsRow w.heap.size 9 1 v' xs.length (xs.map .string) ∧ Below w.heap.size w w' := by
  obtain ⟨a, c, rfl, hc, hm, hcell⟩ := hr
  rw [List.length_map] at hc ⊢
  have HC := Lib.hid hcell
  clear hcell
  obtain ⟨i0, hi, hz0, hz1, hz2⟩ := info_parts infoString
  go_enter Try.func86, Try.ntmps86
  go_wp2_with (at_make; refine wpList_make_full _ rfl _ _ 24 rfl w.heap.size 9 i0 (.string ⟨#[]⟩) 1 Try.underlying24 hi hz0 hz1 .i64 .i64 (xs.length : Int) (xs.length : Int) xs.length rfl rfl rfl rfl ?c1 ?c2 ?c3 ?_)
  case c1 => rw [hz2]; omega
  case c2 => unfold maxLen; omega
  case c3 => exact Nat.le_refl _
  intro w1 hown hgrow
  have hbel : Below w.heap.size w w1 := (Below.refl _ _).grown hgrow (Nat.le_refl _) (fun k hk => by cases hk)
  have hzl := own_len hown
  generalize Array.toList (madeCells _ _) = z0 at *
  clear hgrow
  go_wp2
  go_loopw [4] (fun i wr => ∃ k : Nat, k ≤ xs.length ∧ i = .int .i64 k ∧ (∃ zs : List Value, zs.length = xs.length ∧ Hid (zs.take k = (xs.map Value.string).take k) ∧ wr.ownsRow w.heap.size 9 1 (.slice (some ⟨w.heap.size, 0, none⟩) xs.length xs.length) xs.length zs) ∧ Below w.heap.size w wr)
    (fun i _ => xs.length - (RowKit.intOf i).toNat)
  case atStart => exact ⟨0, Nat.zero_le _, rfl, ⟨z0, hzl, rfl, hown⟩, hbel⟩
  case round =>
    obtain ⟨k, hk, rfl, ⟨zs, hzs, HT, hown⟩, hbel⟩ := hrel
    by_cases hlt : k < xs.length
    · obtain ⟨b, off, rfl, hbl, hcx0⟩ := str_at HC.out k hlt
      have hcx : wr.cell? ⟨b, off + k, none⟩ = some (.string xs[k]) := by rw [hbel.cell (p := ⟨b, off + k, none⟩) hbl]; exact hcx0
      have hoc : wr.cell? ⟨w.heap.size, k, none⟩ = some (zs[k]'(by omega)) := by rw [hown.cellAt k (by omega)]; exact List.getElem?_eq_getElem _
      have hof := hown.frozenAt k
      have hown2 := (hown.stored k (.string xs[k])).1
      have HT2 : Hid ((zs.set k (.string xs[k])).take (k + 1) = (xs.map Value.string).take (k + 1)) := by
        have := take_set_succ zs (xs.map Value.string) k (by omega) (by simpa using hlt) HT.out
        show _ = _
        simpa using this
      clear hcx0 hown
      generalize zs[k] = old at *
      go_wp2
      go_roundw
      case rel => exact ⟨k + 1, by omega, by go_num, ⟨_, by simpa using hzs, HT2, hown2⟩, own_stored_below hbel (Nat.le_refl _)⟩
      case measure => simp [RowKit.intOf]; omega
    · go_wp2
      go_ret
      refine ⟨_, rfl, ?_, hbel⟩
      have := HT.out
      rw [List.take_of_length_le (by omega), List.take_of_length_le (by simp; omega)] at this
      rw [← this]; exact hown

set_option maxHeartbeats 1000000 in
theorem eqStringS_same (v v' : Value) (xs : List ByteArray) (w : World) (hr : RowAt w v (xs.map .string)) (hr' : RowAt w v' (xs.map .string)) (hn : xs.length ≤ 1048576) :
    Calls Try.prog 89 #[v, v'] w fun e w' => e = .returned (.bool true) ∧ ∃ m, w' = w.drewN m := by
  obtain ⟨a, c, rfl, hc, hm, hcell⟩ := hr
  obtain ⟨a', c', rfl, hc', hm', hcell'⟩ := hr'
  rw [List.length_map] at *
  have HC := Lib.hid hcell
  have HC' := Lib.hid hcell'
  clear hcell hcell'
  go_enter Try.func89, Try.ntmps89
  go_wp2
  go_loopw [5] (fun i wr => ∃ k : Nat, k ≤ xs.length ∧ i = .int .i64 k ∧ ∃ m, wr = w.drewN m)
    (fun i _ => xs.length - (RowKit.intOf i).toNat)
  case atStart => exact ⟨0, Nat.zero_le _, rfl, 0, rfl⟩
  case round =>
    obtain ⟨k, hk, rfl, m, rfl⟩ := hrel
    by_cases hlt : k < xs.length
    · obtain ⟨b, off, rfl, _, hcx⟩ := str_at HC.out k hlt
      obtain ⟨b', off', rfl, _, hcx'⟩ := str_at HC'.out k hlt
      generalize xs[k] = y at *
      have hk1 : (k : Int) < (xs.length : Int) := by omega
      have hyy : (y.toList == y.toList) = true := by simp
      go_wp2
      go_quiet (fail)
      go_wp2
      go_roundw
      case rel => exact ⟨k + 1, by omega, by go_num, _, rfl⟩
      case measure => simp [RowKit.intOf]; omega
    · go_wp2
      go_ret
      exact ⟨rfl, _, rfl⟩
end Go.Proofs.Ytfgkfdkdjegaiaa
