/-
  JOINED TEXTS, each under its own namespace line: Net, Find, Leg, JrnP, SpanP, Trip, TTP.
-/
import Derived.Test.YtfgkfdkdjegaiaaMk01
import Derived.Test.YtfgkfdkdjegaiaaMk03
import Derived.Test.YtfgkfdkdjegaiaaMk02
import Derived.Deep.Slices
import Derived.Deep.Fields
import Derived.Lib.SmallJoins
import Derived.ChangeSame
import Derived.Test.YtfgkfdkdjegaiaaRows
import Derived.WalkLawsBesides
import Derived.LoopTactic
import Derived.Lib.Hide
import Derived.WalkKit
namespace Go.Proofs.Ytfgkfdkdjegaiaa
open Go.RowKit Go.ChangeShapes Go.WideShapes Go.ChangeAt Go.Deep Go.Joins

def LineAt (w : World) (b o : Nat) (l : LineD) : Prop :=
  ∃ sv rv, w.cell? ⟨b, o, none⟩ = some (.string l.name) ∧ w.cell? ⟨b, o + 1, none⟩ = some sv ∧ w.cell? ⟨b, o + 2, none⟩ = some rv ∧ RowAt w sv (ints l.stops) ∧ RowAt w rv (ints l.runs)

def LineV (w : World) (v : Value) (l : LineD) : Prop := ∃ sv rv, v = .agg #[.string l.name, sv, rv] ∧ RowAt w sv (ints l.stops) ∧ RowAt w rv (ints l.runs)
def LinesAt (w : World) (v : Value) (ls : List LineD) : Prop :=
  ∃ a c, v = .slice a ls.length c ∧ ls.length ≤ c ∧ c ≤ maxLen ∧ ∀ k l, ls[k]? = some l → ∃ b off, a = some ⟨b, off, none⟩ ∧ b < w.heap.size ∧ LineAt w b (off + k * 3) l
def NetAt (w : World) (v : Value) (n : NetD) : Prop := ∃ s l, v = .agg #[s, l] ∧ RowAt w s (strs n.stops) ∧ LinesAt w l n.lines

theorem LineAt.below {w w' : World} {b o : Nat} {l : LineD} (h : LineAt w b o l) {B : Nat} (hB : B = w.heap.size) (hb : Below B w w') : LineAt w' b o l := by
  obtain ⟨sv, rv, h1, h2, h3, h4, h5⟩ := h
  have hlt := World.block_lt_of_cell? w _ h1
  subst hB
  exact ⟨sv, rv, by rw [hb.cell (p := ⟨b, o, none⟩) hlt]; exact h1, by rw [hb.cell (p := ⟨b, o + 1, none⟩) hlt]; exact h2, by rw [hb.cell (p := ⟨b, o + 2, none⟩) hlt]; exact h3, h4.below rfl hb, h5.below rfl hb⟩
theorem LineV.below {w w' : World} {v : Value} {l : LineD} (h : LineV w v l) {B : Nat} (hB : B = w.heap.size) (hb : Below B w w') : LineV w' v l := by
  obtain ⟨sv, rv, h1, h4, h5⟩ := h
  exact ⟨sv, rv, h1, h4.below hB hb, h5.below hB hb⟩
theorem LinesAt.below {w w' : World} {v : Value} {ls : List LineD} (h : LinesAt w v ls) {B : Nat} (hB : B = w.heap.size) (hb : Below B w w') : LinesAt w' v ls := by
  obtain ⟨a, c, hv, h1, h2, h3⟩ := h
  refine ⟨a, c, hv, h1, h2, fun k l hl => ?_⟩
  obtain ⟨b, off, ha, hlt, hc⟩ := h3 k l hl
  exact ⟨b, off, ha, Nat.lt_of_lt_of_le hlt (by subst hB; exact hb.size), hc.below hB hb⟩
theorem NetAt.below {w w' : World} {v : Value} {n : NetD} (h : NetAt w v n) {B : Nat} (hB : B = w.heap.size) (hb : Below B w w') : NetAt w' v n := by
  obtain ⟨s, l, hv, h1, h2⟩ := h
  exact ⟨s, l, hv, h1.below hB hb, h2.below hB hb⟩

def LineFits (l : LineD) : Prop := l.name.size ≤ maxLen ∧ (∀ z ∈ l.stops, (Lit.int .i64 z).wf = true) ∧ ∀ z ∈ l.runs, (Lit.int .i64 z).wf = true
def NetFits (n : NetD) : Prop := (∀ s ∈ n.stops, s.size ≤ maxLen) ∧ ∀ l ∈ n.lines, LineFits l

section
variable {H : Type} {enc : TypeId × Value → H} {P : Program} {w : World} {base : Nat} {spare : Nat → Bool} {held : Bool}

end
end Go.Proofs.Ytfgkfdkdjegaiaa

namespace Go.Proofs.Ytfgkfdkdjegaiaa
open Go.RowKit
set_option linter.unusedVariables false

theorem lines_at {w : World} {a : Option Addr} {ls : List LineD} (h : ∀ k l, ls[k]? = some l → ∃ b off, a = some ⟨b, off, none⟩ ∧ b < w.heap.size ∧ LineAt w b (off + k * 3) l) (k : Nat) (hk : k < ls.length) :
    ∃ b off, a = some ⟨b, off, none⟩ ∧ b < w.heap.size ∧ LineAt w b (off + k * 3) (ls[k]'hk) := h k _ (by simp [List.getElem?_eq_getElem hk])

theorem lines_open {w : World} {v : Value} {ls : List LineD} (h : LinesAt w v ls) : ∃ a c, v = .slice a ls.length c ∧ ls.length ≤ c ∧ c ≤ 9223372036854775807 ∧
    Hid (∀ k (hk : k < ls.length), ∃ b off, a = some ⟨b, off, none⟩ ∧ b < w.heap.size ∧ LineAt w b (off + k * 3) (ls[k]'hk)) := by
  obtain ⟨a, c, rfl, h1, h2, h3⟩ := h
  exact ⟨a, c, rfl, h1, h2, lines_at h3⟩

theorem net_open {w : World} {v : Value} {n : NetD} (h : NetAt w v n) : ∃ a c a' c', v = .agg #[.slice a n.stops.length c, .slice a' n.lines.length c'] ∧ RowAt w (.slice a n.stops.length c) (strs n.stops) ∧ LinesAt w (.slice a' n.lines.length c') n.lines := by
  obtain ⟨sv, lv, rfl, hss, hll⟩ := h
  obtain ⟨a, c, rfl, _⟩ := strs_open hss
  obtain ⟨a', c', rfl, _⟩ := lines_open hll
  exact ⟨a, c, a', c', rfl, hss, hll⟩

theorem l2Find_any (v : Value) (xs : List ByteArray) (name : ByteArray) (w : World) (hr : RowAt w v (strs xs)) :
    Calls Try.prog 119 #[v, .string name] w fun e w' => e = .returned (.int .i64 (fstIdx name xs)) ∧ w = w' := by
  obtain ⟨a, c, rfl, hc, hm, hcell⟩ := hr
  rw [strs_len] at *
  unfold maxLen at hm
  have HC := Lib.hid hcell
  clear hcell
  go_enter Try.func119, Try.ntmps119
  go_wp2
  go_loop [5] (fun i => ∃ k : Nat, k ≤ xs.length ∧ i = .int .i64 k ∧ Hid (name ∉ xs.take k)) (fun i => xs.length - (RowKit.intOf i).toNat)
  case atStart => exact ⟨0, Nat.zero_le _, rfl, by show _ ∉ _; simp⟩
  case round =>
    obtain ⟨k, hk, rfl, HN⟩ := hrel
    by_cases hlt : k < xs.length
    · obtain ⟨b, off, rfl, _, hcx⟩ := strs_at HC.out k hlt
      by_cases he : xs[k] = name
      · have HF := Lib.hid (fstIdx_hit k hlt he HN.out)
        have hb : (xs[k].toList == name.toList) = true := by rw [bytes_eq]; simp [he]
        clear he
        generalize xs[k] = y at *
        go_wp2
        go_ret
        exact ⟨ret_int HF.out.symm, rfl⟩
      · have HN2 := Lib.hid (not_take_succ hlt HN.out he)
        have hb : (xs[k].toList == name.toList) = false := by rw [bytes_eq]; simp [he]
        clear he
        generalize xs[k] = y at *
        go_wp2
        go_round
        case rel => exact ⟨k + 1, by omega, by go_num, HN2⟩
        case measure => simp [RowKit.intOf]; omega
    · have HF := Lib.hid (fstIdx_none (not_take_all (by omega) HN.out))
      go_wp2
      go_ret
      exact ⟨ret_int HF.out.symm, rfl⟩

theorem l2Place_any (v : Value) (l : LineD) (stop : Int) (w : World) (hr : LineV w v l) :
    Calls Try.prog 81 #[v, .int .i64 stop] w fun e w' => e = .returned (.int .i64 (fstIdx stop l.stops)) ∧ Below w.heap.size w w' := by
  obtain ⟨sv, rv, rfl, hs, _⟩ := hr
  obtain ⟨a, c, rfl, hc, hm, hcell⟩ := hs
  rw [ints_len] at *
  unfold maxLen at hm
  have HC := Lib.hid hcell
  clear hcell
  generalize l.stops = xs at *
  generalize l.name = nm at *
  go_enter Try.func81, Try.ntmps81
  go_wp2
  go_loop [5] (fun i => ∃ k : Nat, k ≤ xs.length ∧ i = .int .i64 k ∧ Hid (stop ∉ xs.take k)) (fun i => xs.length - (RowKit.intOf i).toNat)
  case atStart => exact ⟨0, Nat.zero_le _, rfl, by show _ ∉ _; simp⟩
  case round =>
    obtain ⟨k, hk, rfl, HN⟩ := hrel
    by_cases hlt : k < xs.length
    · obtain ⟨b, off, rfl, hbl, hcx⟩ := ints_at HC.out k hlt
      by_cases he : xs[k] = stop
      · have HF := Lib.hid (fstIdx_hit k hlt he HN.out)
        have hb : (xs[k] == stop) = true := by simp [he]
        clear he
        generalize xs[k] = y at *
        go_wp2
        go_ret
        exact ⟨ret_int HF.out.symm, (Below.refl _ _).alloc (Nat.le_refl _) _⟩
      · have HN2 := Lib.hid (not_take_succ hlt HN.out he)
        have hb : (xs[k] == stop) = false := by simp [he]
        clear he
        generalize xs[k] = y at *
        go_wp2
        go_round
        case rel => exact ⟨k + 1, by omega, by go_num, HN2⟩
        case measure => simp [RowKit.intOf]; omega
    · have HF := Lib.hid (fstIdx_none (not_take_all (by omega) HN.out))
      go_wp2
      go_ret
      exact ⟨ret_int HF.out.symm, (Below.refl _ _).alloc (Nat.le_refl _) _⟩

theorem l2LineNamed_any (v : Value) (n : NetD) (name : ByteArray) (w : World) (hr : NetAt w v n) :
    Calls Try.prog 121 #[v, .string name] w fun e w' => e = .returned (.int .i64 (fstIdx name (n.lines.map (·.name)))) ∧ Below w.heap.size w w' := by
  obtain ⟨sv, lv, rfl, _, hs⟩ := hr
  obtain ⟨a, c, rfl, hc, hm, hcell⟩ := hs
  unfold maxLen at hm
  have HC := Lib.hid hcell
  clear hcell
  generalize n.lines = ls at *
  go_enter Try.func121, Try.ntmps121
  go_wp2
  go_loop [5] (fun i => ∃ k : Nat, k ≤ ls.length ∧ i = .int .i64 k ∧ Hid (name ∉ (ls.map (·.name)).take k)) (fun i => ls.length - (RowKit.intOf i).toNat)
  case atStart => exact ⟨0, Nat.zero_le _, rfl, by show _ ∉ _; simp⟩
  case round =>
    obtain ⟨k, hk, rfl, HN⟩ := hrel
    by_cases hlt : k < ls.length
    · obtain ⟨b, off, rfl, hbl, _, _, hcx, _⟩ := lines_at HC.out k hlt
      have hlt' : k < (ls.map (·.name)).length := by simpa using hlt
      have hget : (ls.map (·.name))[k]'hlt' = ls[k].name := by simp
      by_cases he : ls[k].name = name
      · have HF := Lib.hid (fstIdx_hit k hlt' (hget.trans he) HN.out)
        have hb : (ls[k].name.toList == name.toList) = true := by rw [bytes_eq]; simp [he]
        clear he hget
        generalize ls[k].name = y at *
        go_wp2
        go_ret
        exact ⟨ret_int HF.out.symm, (Below.refl _ _).alloc (Nat.le_refl _) _⟩
      · have HN2 := Lib.hid (not_take_succ hlt' HN.out (by rw [hget]; exact he))
        have hb : (ls[k].name.toList == name.toList) = false := by rw [bytes_eq]; simp [he]
        clear he hget
        generalize ls[k].name = y at *
        go_wp2
        go_round
        case rel => exact ⟨k + 1, by omega, by go_num, HN2⟩
        case measure => simp [RowKit.intOf]; omega
    · have HF := Lib.hid (fstIdx_none (not_take_all (by simp; omega) HN.out))
      go_wp2
      go_ret
      exact ⟨ret_int HF.out.symm, (Below.refl _ _).alloc (Nat.le_refl _) _⟩
end Go.Proofs.Ytfgkfdkdjegaiaa

namespace Go.Proofs.Ytfgkfdkdjegaiaa
open Go.RowKit Go.ChangeShapes Go.WideShapes Go.ChangeAt Go.Deep Go.Joins
set_option linter.unusedVariables false

structure LegD where
  trip : Int
  frm : Int
  dst : Int
  dep : Int
  arr : Int
deriving DecidableEq
section
variable {H : Type} {enc : TypeId × Value → H} {P : Program} {w : World} {base : Nat} {spare : Nat → Bool} {held : Bool}

end
end Go.Proofs.Ytfgkfdkdjegaiaa

namespace Go.Proofs.Ytfgkfdkdjegaiaa.Jrn
set_option linter.unusedVariables false
set_option linter.unusedSectionVars false

structure RideD where
  id : Int
  stops : List Int
  times : List Int
def legR (r : RideD) (i j : Nat) : LegD := ⟨r.id, r.stops.getD i 0, r.stops.getD j 0, r.times.getD i 0, r.times.getD j 0⟩

def legsFrom (r : RideD) (i m : Nat) : List LegD := (List.range m).map fun d => legR r i (i + 1 + d)

def legsTo (r : RideD) (m : Nat) : List LegD := (List.range m).flatMap fun i => legsFrom r i (r.stops.length - (i + 1))
def rideLegs (r : RideD) : List LegD := legsTo r r.stops.length
def allLegs (rs : List RideD) : List LegD := rs.flatMap rideLegs
def endT (t : Int) : List LegD → Int
  | [] => t
  | l :: c => endT l.arr c
def rideLt (a b : LegD) : Prop := a.trip < b.trip ∨ (a.trip = b.trip ∧ (a.frm < b.frm ∨ (a.frm = b.frm ∧ a.dst < b.dst)))
def rideEq (a b : LegD) : Prop := a.trip = b.trip ∧ a.frm = b.frm ∧ a.dst = b.dst
def lexLt : List LegD → List LegD → Prop
  | [], [] => False
  | [], _ :: _ => True
  | _ :: _, [] => False
  | a :: x, b :: y => rideLt a b ∨ (rideEq a b ∧ lexLt x y)

def JLt (a b : List LegD) : Prop := endT 0 a < endT 0 b ∨ (endT 0 a = endT 0 b ∧ (a.length < b.length ∨ (a.length = b.length ∧ lexLt a b)))
open Classical in
noncomputable def pickJ : Option (List LegD) → Option (List LegD) → Option (List LegD)
  | acc, none => acc
  | none, some j => some j
  | some f, some j => if JLt j f then some j else some f
def candJ (too t : Int) (g : LegD → Option (List LegD)) (l : LegD) : Option (List LegD) :=
  if l.dep < t then none else if l.dst = too then some [l] else (g l).map (l :: ·)
noncomputable def pickAll (f : LegD → Option (List LegD)) (acc : Option (List LegD)) (xs : List LegD) : Option (List LegD) := xs.foldl (fun a l => pickJ a (f l)) acc
noncomputable def bestF (L : List LegD) (ch too : Int) : Nat → Int → Int → Option (List LegD)
  | 0, _, _ => none
  | n + 1, s, t => pickAll (candJ too t (fun l => bestF L ch too n l.dst (l.arr + ch))) none (L.filter (fun l => l.frm = s))
section
variable {L : List LegD} (hL : ∀ a ∈ L, ∀ b ∈ L, rideEq a b → a = b)
include hL
omit hL in
omit hL in
omit hL in
end

section
variable {N : Nat} {rs : List RideD} {ch frm at_ : Int}

end
section
variable {N : Nat} {rs : List RideD} {ch frm at_ : Int}
def endO : Option (List LegD) → Int
  | none => -1
  | some c => endT 0 c
noncomputable def arrF (rs : List RideD) (ch frm at_ too : Int) : Int := if frm = too then at_ else endO (bestF (allLegs rs) ch too 4 frm at_)
end
section
variable {N : Nat} {rs : List RideD} {ch frm at_ : Int}

end

section
variable {L : List LegD} {ch too arrive : Int}

end
section
variable {N : Nat} {rs : List RideD} {ch frm at_ : Int}
end
section
variable {N : Nat} {rs : List RideD} {ch frm at_ : Int}

end
end Go.Proofs.Ytfgkfdkdjegaiaa.Jrn

namespace Go.Proofs.Ytfgkfdkdjegaiaa
set_option linter.unusedVariables false

abbrev SpanD := Int × Int
def TimeOk (t : Int) : Prop := 0 ≤ t ∧ t ≤ 1799
instance (t : Int) : Decidable (TimeOk t) := by unfold TimeOk; infer_instance
def SpanOk (s : SpanD) : Prop := TimeOk s.1 ∧ TimeOk s.2 ∧ s.1 ≤ s.2
instance (s : SpanD) : Decidable (SpanOk s) := by unfold SpanOk; infer_instance
def SpansOk (l : List SpanD) : Prop := l.length ≤ 20 ∧ ∀ s ∈ l, SpanOk s
instance (l : List SpanD) : Decidable (SpansOk l) := by unfold SpansOk; infer_instance
def bestF (c : Nat → Nat) : Nat → Nat
  | 0 => 0
  | n + 1 => if c (bestF c n) < c (n + 1) then n + 1 else bestF c n
end Go.Proofs.Ytfgkfdkdjegaiaa

namespace Go.Proofs.Ytfgkfdkdjegaiaa
open Go.RowKit Go.ChangeShapes Go.WideShapes Go.ChangeAt Go.Deep Go.Joins
set_option linter.unusedVariables false

structure TripD where
  id : Int
  line : Int
  start : Int
deriving DecidableEq
section
variable {H : Type} {enc : TypeId × Value → H} {P : Program} {w : World} {base : Nat} {spare : Nat → Bool} {held : Bool}

end
end Go.Proofs.Ytfgkfdkdjegaiaa

namespace Go.Proofs.Ytfgkfdkdjegaiaa
set_option linter.unusedVariables false

structure TTD where
  net : NetD
  trips : List TripD

def allRun (n : NetD) (x : TripD) : Int := ((n.lines[x.line.toNat]?).map (fun l => l.runs.sum)).getD 0
theorem allRun_at {n : NetD} {x : TripD} {i : Nat} (hx : x.line = i) (h : i < n.lines.length) : allRun n x = (n.lines[i]'h).runs.sum := by
  unfold allRun; rw [hx]; simp [h]
def arrF (n : NetD) (x : TripD) : Int := x.start + allRun n x
def CanRun (n : NetD) (x : TripD) : Prop := (0 ≤ x.line ∧ x.line < n.lines.length) ∧ TimeOk x.start ∧ TimeOk (arrF n x)
def TripStep (t : TTD) (k : Nat) (h : k < t.trips.length) : Prop :=
  1 ≤ t.trips[k].id ∧ t.trips[k].id ≤ 999 ∧ CanRun t.net t.trips[k] ∧ ∀ j (hj : j + 1 = k), (t.trips[j]'(by omega)).id < t.trips[k].id
def TripsTo (t : TTD) (k : Nat) : Prop := ∀ j (h : j < t.trips.length), j < k → TripStep t j h
def TTGood (t : TTD) : Prop := NetGood t.net ∧ t.trips.length ≤ 12 ∧ TripsTo t t.trips.length
noncomputable instance (t : TTD) : Decidable (TTGood t) := Classical.propDecidable _
theorem TTGood.step {t : TTD} (h : TTGood t) (k : Nat) (hk : k < t.trips.length) : TripStep t k hk := h.2.2 k hk hk
theorem TTGood.line {t : TTD} (h : TTGood t) (k : Nat) (hk : k < t.trips.length) : ∃ i : Nat, (t.trips[k]'hk).line = i ∧ ∃ hi : i < t.net.lines.length, arrF t.net (t.trips[k]'hk) = (t.trips[k]'hk).start + (t.net.lines[i]'hi).runs.sum := by
  have hs := (h.step k hk).2.2.1.1
  obtain ⟨i, hi⟩ := Int.eq_ofNat_of_zero_le hs.1
  have hlt : i < t.net.lines.length := by omega
  exact ⟨i, hi, hlt, by unfold arrF; rw [allRun_at hi hlt]⟩

end Go.Proofs.Ytfgkfdkdjegaiaa
