/-
  JOINED TEXTS, each under its own namespace line: TTP, IntsLaw.
-/
import Derived.Test.YtehpeifaknbcnaaMk01
import Derived.Test.YtehpeifaknbcnaaTrip
import Derived.Test.YtehpeifaknbcnaaRows
import Derived.Test.YtehpeifaknbcnaaInts
import Derived.LoopTactic
import Derived.WalkLawsBesides
import Derived.BigQuiet
import Derived.Deep.RegionHeld3
import Derived.Deep.QuietTactic
import Derived.Laws.Entries
namespace Go.Proofs.Ytehpeifaknbcnaa
set_option linter.unusedVariables false

structure TTD where
  net : NetD
  trips : List TripD

def allRun (n : NetD) (x : TripD) : Int := ((n.lines[x.line.toNat]?).map (fun l => l.runs.sum)).getD 0
theorem allRun_at {n : NetD} {x : TripD} {i : Nat} (hx : x.line = i) (h : i < n.lines.length) : allRun n x = (n.lines[i]'h).runs.sum := by
  unfold allRun; rw [hx]; simp [h]
def arrF (n : NetD) (x : TripD) : Int := x.start + allRun n x
def CanRun (n : NetD) (x : TripD) : Prop := (0 ≤ x.line ∧ x.line < n.lines.length) ∧ TimeOk x.start ∧ TimeOk (arrF n x)
def TripStep (t : TTD) (k : Nat) (h : k < t.trips.length) : Prop :=
  1 ≤ t.trips[k].id ∧ t.trips[k].id ≤ 999 ∧ CanRun t.net t.trips[k] ∧ ∀ j (hj : j + 1 = k), (t.trips[j]'(by omega)).id < t.trips[k].id
def TripsTo (t : TTD) (k : Nat) : Prop := ∀ j (h : j < t.trips.length), j < k → TripStep t j h
def TTGood (t : TTD) : Prop := NetGood t.net ∧ t.trips.length ≤ 12 ∧ TripsTo t t.trips.length
noncomputable instance (t : TTD) : Decidable (TTGood t) := Classical.propDecidable _
noncomputable def ttB (t : TTD) : Bool := decide (TTGood t)
theorem ttB_yes {t : TTD} (h : TTGood t) : ttB t = true := decide_eq_true h
theorem ttB_no {t : TTD} (h : ¬ TTGood t) : ttB t = false := decide_eq_false h
theorem tripsTo_succ {t : TTD} {k : Nat} (hk : k < t.trips.length) (h : TripsTo t k) (h1 : TripStep t k hk) : TripsTo t (k + 1) := by
  intro j hj hjk
  by_cases e : j = k
  · subst e; exact h1
  · exact h j hj (by omega)

def lastId (t : TTD) : Nat → Int
  | 0 => 0
  | k + 1 => ((t.trips[k]?).map (fun x => x.id)).getD 0
theorem lastId_succ {t : TTD} {k : Nat} (h : k < t.trips.length) : lastId t (k + 1) = (t.trips[k]'h).id := by simp [lastId, h]
theorem step_of {t : TTD} {k : Nat} (hk : k < t.trips.length) (h : TripsTo t k) (h1 : lastId t k < (t.trips[k]'hk).id) (h2 : (t.trips[k]'hk).id ≤ 999) (h3 : CanRun t.net (t.trips[k]'hk)) : TripStep t k hk := by
  cases k with
  | zero => exact ⟨by simp only [lastId] at h1; omega, h2, h3, fun j hj => by omega⟩
  | succ j =>
    rw [lastId_succ (by omega)] at h1
    have := (h j (by omega) (by omega)).1
    refine ⟨by omega, h2, h3, fun i hi => ?_⟩
    obtain rfl : i = j := by omega
    exact h1
theorem step_last {t : TTD} {k : Nat} (hk : k < t.trips.length) (h : TripStep t k hk) : lastId t k < (t.trips[k]'hk).id := by
  cases k with
  | zero => have := h.1; simp only [lastId]; omega
  | succ j => rw [lastId_succ (by omega)]; exact h.2.2.2 j rfl
theorem ids_lt {t : TTD} (h : TripsTo t t.trips.length) : ∀ (d i : Nat) (h2 : i + d + 1 < t.trips.length), (t.trips[i]'(by omega)).id < (t.trips[i + d + 1]'h2).id
  | 0, i, h2 => (h (i + 1) h2 h2).2.2.2 i rfl
  | d + 1, i, h2 => by
    have h3 := ids_lt h d i (by omega)
    have h4 := (h (i + d + 1 + 1) (by omega) (by omega)).2.2.2 (i + d + 1) rfl
    have e : i + (d + 1) + 1 = i + d + 1 + 1 := by omega
    simp only [e]
    omega
theorem TTGood.asc {t : TTD} (h : TTGood t) (i j : Nat) (hij : i < j) (hj : j < t.trips.length) : (t.trips[i]'(by omega)).id < (t.trips[j]'hj).id := by
  have := ids_lt h.2.2 (j - i - 1) i (by omega)
  have e : i + (j - i - 1) + 1 = j := by omega
  simp only [e] at this
  exact this
theorem TTGood.step {t : TTD} (h : TTGood t) (k : Nat) (hk : k < t.trips.length) : TripStep t k hk := h.2.2 k hk hk
theorem TTGood.line {t : TTD} (h : TTGood t) (k : Nat) (hk : k < t.trips.length) : ∃ i : Nat, (t.trips[k]'hk).line = i ∧ ∃ hi : i < t.net.lines.length, arrF t.net (t.trips[k]'hk) = (t.trips[k]'hk).start + (t.net.lines[i]'hi).runs.sum := by
  have hs := (h.step k hk).2.2.1.1
  obtain ⟨i, hi⟩ := Int.eq_ofNat_of_zero_le hs.1
  have hlt : i < t.net.lines.length := by omega
  exact ⟨i, hi, hlt, by unfold arrF; rw [allRun_at hi hlt]⟩

end Go.Proofs.Ytehpeifaknbcnaa

namespace Go.Proofs.Ytehpeifaknbcnaa
open Go.RowKit
set_option linter.unusedVariables false

theorem infoInt : (Try.prog.info? 3).map (fun i => (i.zero, i.size, i.bytes)) = some (some (.int .i64 0), 1, 8) := by kernel_rfl

theorem szIntS_any (v : Value) (xs : List Int) (left : Int) (w : World) (hr : RowAt w v (ints xs)) (h0 : 0 ≤ left) (h1 : left ≤ 1048576) :
    Calls Try.prog 65 #[v, .int .i64 left] w fun e w' => (∃ r : Int, e = .returned (.int .i64 r) ∧ (r = -1 ∨ (0 ≤ r ∧ (xs.length : Int) + r = left))) ∧ w = w' := by
  obtain ⟨a, c, rfl, hc, hm, HC⟩ := ints_open hr
  clear hr
  by_cases hneg : left - (xs.length : Int) < 0
  · go_enter Try.func65, Try.ntmps65
    go_wp2
    go_ret
    exact ⟨⟨-1, rfl, .inl rfl⟩, rfl⟩
  · go_enter Try.func65, Try.ntmps65
    go_wp2
    go_ret
    exact ⟨⟨_, rfl, .inr ⟨by omega, by omega⟩⟩, rfl⟩

set_option maxHeartbeats 1000000 in
theorem toIntS_any (v : Value) (xs : List Int) (w : World) (hr : RowAt w v (ints xs)) (hn : xs.length ≤ 1048576) :
    Calls Try.prog 67 #[v] w fun e w' => ∃ c, e = .returned (.slice (some ⟨w.heap.size, 0, none⟩) xs.length c) ∧ w'.ownsRow w.heap.size 3 1 (.slice (some ⟨w.heap.size, 0, none⟩) xs.length c) xs.length (ints xs) ∧ Below w.heap.size w w' := by
  obtain ⟨a, c, rfl, hc, hm, HC⟩ := ints_open hr
  clear hr
  obtain ⟨i0, hi, hz0, hz1, hz2⟩ := info_parts infoInt
  go_enter Try.func67, Try.ntmps67
  go_wp2_with (at_make; refine wpList_make_full _ rfl _ _ 80 rfl w.heap.size 3 i0 (.int .i64 0) 1 Try.underlying80 hi hz0 hz1 .i64 .i64 (xs.length : Int) (xs.length : Int) xs.length rfl rfl rfl rfl ?c1 ?c2 ?c3 ?_)
  case c1 => rw [hz2]; omega
  case c2 => unfold maxLen; omega
  case c3 => exact Nat.le_refl _
  intro w1 hown hgrow
  have hbel : Below w.heap.size w w1 := (Below.refl _ _).grown hgrow (Nat.le_refl _) (fun k hk => by cases hk)
  have hzl := own_len hown
  generalize Array.toList (madeCells _ _) = z0 at *
  clear hgrow
  go_wp2
  go_loopw [4] (fun i wr => ∃ k : Nat, k ≤ xs.length ∧ i = .int .i64 k ∧ (∃ zs : List Value, zs.length = xs.length ∧ Hid (zs.take k = (ints xs).take k) ∧ wr.ownsRow w.heap.size 3 1 (.slice (some ⟨w.heap.size, 0, none⟩) xs.length xs.length) xs.length zs) ∧ Below w.heap.size w wr)
    (fun i _ => xs.length - (RowKit.intOf i).toNat)
  case atStart => exact ⟨0, Nat.zero_le _, rfl, ⟨z0, hzl, rfl, hown⟩, hbel⟩
  case round =>
    obtain ⟨k, hk, rfl, ⟨zs, hzs, HT, hown⟩, hbel⟩ := hrel
    by_cases hlt : k < xs.length
    · obtain ⟨b, off, rfl, hbl, hcx0⟩ := HC.out k hlt
      have hcx : wr.cell? ⟨b, off + k, none⟩ = some (.int .i64 xs[k]) := by rw [hbel.cell (p := ⟨b, off + k, none⟩) hbl]; exact hcx0
      have hoc : wr.cell? ⟨w.heap.size, k, none⟩ = some (zs[k]'(by omega)) := by rw [hown.cellAt k (by omega)]; exact List.getElem?_eq_getElem _
      have hof := hown.frozenAt k
      have hown2 := (hown.stored k (.int .i64 xs[k])).1
      have HT2 : Hid ((zs.set k (.int .i64 xs[k])).take (k + 1) = (ints xs).take (k + 1)) := by
        have := take_set_succ zs (ints xs) k (by omega) (by simpa [ints] using hlt) HT.out
        show _ = _
        simpa [ints] using this
      clear hcx0 hown
      generalize zs[k] = old at *
      generalize xs[k] = y at *
      go_wp2
      go_roundw
      case rel => exact ⟨k + 1, by omega, by go_num, ⟨_, by simpa using hzs, HT2, hown2⟩, own_stored_below hbel (Nat.le_refl _)⟩
      case measure => simp [RowKit.intOf]; omega
    · go_wp2
      go_ret
      refine ⟨xs.length, rfl, ?_, hbel⟩
      have := HT.out
      rw [List.take_of_length_le (by omega), List.take_of_length_le (by simp [ints]; omega)] at this
      rw [← this]; exact hown

set_option maxHeartbeats 1000000 in
theorem eqIntS_same (v v' : Value) (xs : List Int) (w : World) (hr : RowAt w v (ints xs)) (hr' : RowAt w v' (ints xs)) :
    Calls Try.prog 71 #[v, v'] w fun e w' => e = .returned (.bool true) ∧ Below w.heap.size w w' := by
  obtain ⟨a, c, rfl, hc, hm, HC⟩ := ints_open hr
  obtain ⟨a', c', rfl, hc', hm', HC'⟩ := ints_open hr'
  clear hr hr'
  go_enter Try.func71, Try.ntmps71
  go_wp2
  go_loopw [5] (fun i wr => ∃ k : Nat, k ≤ xs.length ∧ i = .int .i64 k ∧ ∃ m, wr = w.drewN m)
    (fun i _ => xs.length - (RowKit.intOf i).toNat)
  case atStart => exact ⟨0, Nat.zero_le _, rfl, 0, rfl⟩
  case round =>
    obtain ⟨k, hk, rfl, m, rfl⟩ := hrel
    by_cases hlt : k < xs.length
    · obtain ⟨b, off, rfl, _, hcx⟩ := HC.out k hlt
      obtain ⟨b', off', rfl, _, hcx'⟩ := HC'.out k hlt
      generalize xs[k] = y at *
      have hk1 : (k : Int) < (xs.length : Int) := by omega
      have hyy : (y != y) = false := by simp
      go_wp2
      go_quiet (fail)
      go_wp2
      go_roundw
      case rel => exact ⟨k + 1, by omega, by go_num, _, rfl⟩
      case measure => simp [RowKit.intOf]; omega
    · go_wp2
      go_ret
      exact ⟨rfl, Dr.below ⟨m, rfl⟩⟩

set_option maxHeartbeats 1000000 in
theorem markIntS_own (v : Value) (xs : List Int) (k : Int) (B : Nat) (w : World) (hr : w.ownsRow B 3 1 v xs.length (ints xs)) (hn : xs.length ≤ 1048576) (hk0 : 0 ≤ k) (hk : k ≤ 1073741824) :
    Calls Try.prog 82 #[v, .int .i64 k] w fun e w' => e = .returned (.int .i64 (k + xs.length)) ∧ w'.ownsRow B 3 1 v xs.length (ints (countUp k xs.length)) ∧ w.grownBy w' v.ownBlock := by
  obtain ⟨a, c, rfl⟩ := own_shape hr
  have HO := Lib.hid hr
  clear hr
  go_enter Try.func82, Try.ntmps82
  go_wp2
  go_loopw [1, 5] (fun q i wr => ∃ j : Nat, j ≤ xs.length ∧ i = .int .i64 j ∧ q = .int .i64 (k + j) ∧ (∃ zs : List Value, zs.length = xs.length ∧ Hid (zs.take j = (ints (countUp k xs.length)).take j) ∧ Hid (wr.ownsRow B 3 1 (.slice a xs.length c) xs.length zs)) ∧ Hid (w.grownBy wr (Value.ownBlock (.slice a xs.length c))))
    (fun _ i _ => xs.length - (RowKit.intOf i).toNat)
  case atStart => exact ⟨0, Nat.zero_le _, rfl, by simp, ⟨_, ints_len xs, rfl, HO.out⟩, World.grownBy.refl _ _⟩
  case round =>
    obtain ⟨j, hj, rfl, rfl, ⟨zs, hzs, HT, HOwn⟩, HG⟩ := hrel
    by_cases hlt : j < xs.length
    · obtain ⟨_, h2⟩ := HOwn.out
      rcases h2 with ⟨hv, h0⟩ | ⟨g, cap, cur, hv, hg, hblk, h3, h4, h5, h6⟩
      · omega
      simp at hv
      obtain ⟨rfl, rfl⟩ := hv
      have hown := HOwn.out
      have hoc : wr.cell? ⟨g, j, none⟩ = some (zs[j]'(by omega)) := by rw [hown.cellAt j (by omega)]; exact List.getElem?_eq_getElem _
      have hof := hown.frozenAt j
      have HOwn2 := Lib.hid (hown.stored j (.int .i64 (k + j))).1
      have HT2 : Hid ((zs.set j (.int .i64 (k + j))).take (j + 1) = (ints (countUp k xs.length)).take (j + 1)) := by
        have hl2 : j < (ints (countUp k xs.length)).length := by rw [ints_len, countUp_len]; exact hlt
        have := take_set_succ zs (ints (countUp k xs.length)) j (by omega) hl2 HT.out
        have e : (ints (countUp k xs.length))[j]'hl2 = .int .i64 (k + j) := by simp only [ints, List.getElem_map]; rw [countUp_get]
        rw [e] at this; exact this
      have HG2 : Hid (w.grownBy (wr.setCell ⟨g, j, none⟩ (.int .i64 (k + j))) (some g)) :=
        ⟨HG.out.os, HG.out.tape, HG.out.output, by have := HG.out.size; simp [World.setCell]; omega, fun q hq hne => by
          rw [Below.heap_setCell _ _ _ _ (fun e => hne (by rw [e]))]; exact HG.out.block q hq hne⟩
      clear HG
      clear hown hblk h4 h5 h6
      generalize zs[j] = old at *
      go_wp2
      go_roundw
      case rel => exact ⟨j + 1, by omega, by go_num, by go_num, ⟨_, by simpa using hzs, HT2, HOwn2⟩, HG2⟩
      case measure => simp [RowKit.intOf]; omega
    · have hjl : j = xs.length := by omega
      subst hjl
      go_wp2
      go_ret
      refine ⟨rfl, ?_, HG.out⟩
      have := HT.out
      rw [List.take_of_length_le (by omega), List.take_of_length_le (by rw [ints_len, countUp_len]; omega)] at this
      rw [← this]; exact HOwn.out

theorem heldIntS_own (v : Value) (k : Int) (n : Nat) (w : World) (hr : RowAt w v (ints (countUp k n))) (hn : n ≤ 1048576) (hk0 : 0 ≤ k) (hk : k ≤ 1073741824) :
    Calls Try.prog 89 #[v, .int .i64 k] w fun e w' => e = .returned (.int .i64 (k + n)) ∧ w = w' := by
  obtain ⟨a, c, rfl, hc, hm, HC⟩ := ints_open hr
  rw [countUp_len] at *
  clear hr
  go_enter Try.func89, Try.ntmps89
  go_wp2
  go_loop [1, 5] (fun q i => ∃ j : Nat, j ≤ n ∧ i = .int .i64 j ∧ q = .int .i64 (k + j)) (fun _ i => n - (RowKit.intOf i).toNat)
  case atStart => exact ⟨0, Nat.zero_le _, rfl, by simp⟩
  case round =>
    obtain ⟨j, hj, rfl, rfl⟩ := hrel
    by_cases hlt : j < n
    · obtain ⟨b, off, rfl, _, hcx⟩ := HC.out j (by rw [countUp_len]; exact hlt)
      rw [countUp_get] at hcx
      have hne : (k + (j : Int) != k + (j : Int)) = false := by simp
      go_wp2
      go_round
      case rel => exact ⟨j + 1, by omega, by go_num, by go_num⟩
      case measure => simp [RowKit.intOf]; omega
    · have hjl : j = n := by omega
      subst hjl
      go_wp2
      go_ret
      exact ⟨rfl, rfl⟩
end Go.Proofs.Ytehpeifaknbcnaa
