/-
  What spec.TripNumber and impl.TripNumber both return.
-/
import Derived.Test.YtffcgblionlhhaaL5Good
import Derived.Test.YtffcgblionlhhaaTripFind
namespace Go.Proofs.Ytffcgblionlhhaa
open Go.RowKit
set_option linter.unusedVariables false

theorem TTGood.Asc {t : TTD} (h : TTGood t) : Asc t.trips := fun i j hij hj => h.asc i j hij hj
/-- the trip's place and whether there is one -/
noncomputable def numF (t : TTD) (id : Int) : Int × Bool := if TTGood t ∧ foundB id t.trips = true then ((placeOf id t.trips : Int), true) else (0, false)

theorem implTripNumber_any (v : Value) (t : TTD) (id : Int) (w : World) (hr : TTAt w v t) (hf : TTFits t) (hs : TTSmall t) :
    Calls Try.prog 179 #[v, .int .i64 id] w fun e w' => e = .returned (.tuple #[.int .i64 (numF t id).1, .bool (numF t id).2]) ∧ Below w.heap.size w w' := by
  have HG := Lib.hid (fun W (hW : Below w.heap.size w W) => implTT_any v t W (hr.below rfl hW) hf)
  have HTT := Lib.hid hr
  have hsz := hs.2
  unfold TripsSmall at hsz
  obtain ⟨a, c, a', c', b, d, rfl, -, ht⟩ := tt_open hr
  have HT := Lib.hid ht
  clear hr hf hs ht
  by_cases hg : TTGood t
  · rw [ttB_yes hg] at HG
    have HP := Lib.hid (fun W (hW : Below w.heap.size w W) => tripPlace_any _ t.trips id W (HT.out.below rfl hW) hsz hg.Asc)
    go_enter Try.func179, Try.ntmps179
    go_wp2_with fail
    go_at_call 77
    refine (HG.out _ ((Below.refl _ _).alloc (Nat.le_refl _) _)).mono ?_
    rintro e w1 ⟨rfl, hb1⟩
    have HB1 : Hid (Below w.heap.size w w1) := ((Below.refl _ _).alloc (Nat.le_refl _) _).trans (hb1.mono (by simp))
    have p2 : w1.cell? ⟨w.heap.size, 2, none⟩ = some (.slice b t.trips.length d) := bkeep hb1 (by go_simp)
    clear hb1
    go_wp2_with fail
    go_at_call 159
    refine (HP.out _ HB1.out).mono ?_
    rintro e w2 ⟨rfl, hb2⟩
    have HB2 : Hid (Below w.heap.size w w2) := HB1.out.trans (hb2.mono HB1.out.size)
    clear hb2
    cases hfd : foundB id t.trips with
    | true =>
      have HN : Hid (numF t id = ((placeOf id t.trips : Int), true)) := if_pos ⟨hg, hfd⟩
      clear hfd
      go_wp2_with fail
      go_ret2
      exact ⟨by rw [HN.out]; rfl, HB2.out⟩
    | false =>
      have HN : Hid (numF t id = (0, false)) := if_neg fun h => by rw [hfd] at h; cases h.2
      clear hfd
      go_wp2_with fail
      go_ret2
      exact ⟨by rw [HN.out]; rfl, HB2.out⟩
  · rw [ttB_no hg] at HG
    rw [show numF t id = (0, false) from if_neg fun h => hg h.1]
    clear hg
    go_enter Try.func179, Try.ntmps179
    go_wp2_with fail
    go_at_call 77
    refine (HG.out _ ((Below.refl _ _).alloc (Nat.le_refl _) _)).mono ?_
    rintro e w1 ⟨rfl, hb1⟩
    have HB1 : Hid (Below w.heap.size w w1) := ((Below.refl _ _).alloc (Nat.le_refl _) _).trans (hb1.mono (by simp))
    clear hb1
    go_wp2_with fail
    go_ret2
    exact ⟨rfl, HB1.out⟩
end Go.Proofs.Ytffcgblionlhhaa
