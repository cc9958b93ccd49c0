/-
  What spec.StopTimes and impl.StopTimes both return.
-/
import Derived.Test.YtffcgblionlhhaaTripNumber
import Derived.Test.YtffcgblionlhhaaStopTimesOf
import Derived.Test.YtffcgblionlhhaaL5Times
namespace Go.Proofs.Ytffcgblionlhhaa
open Go.RowKit
set_option linter.unusedVariables false

/-- the stop times of the trip at a place -/
def stopL (t : TTD) (p : Nat) : List Int := match t.trips[p]? with
  | some x => match t.net.lines[x.line.toNat]? with
    | some l => tk x.start l.runs (l.runs.length + 1)
    | none => []
  | none => []
theorem stopL_at {t : TTD} {p k : Nat} (hp : p < t.trips.length) (hk : (t.trips[p]).line = k) (hkl : k < t.net.lines.length) : stopL t p = tk (t.trips[p]).start t.net.lines[k].runs (t.net.lines[k].runs.length + 1) := by
  unfold stopL; rw [List.getElem?_eq_getElem hp]; simp only [hk, Int.toNat_natCast, List.getElem?_eq_getElem hkl]
noncomputable def stF (t : TTD) (id : Int) : List Int × Bool := if TTGood t ∧ foundB id t.trips = true then (stopL t (placeOf id t.trips), true) else ([], false)
def StAns (B : Nat) (r : List Int) (b : Bool) (e : Ending) (w' : World) : Prop := ∃ v', e = .returned (.tuple #[v', .bool b]) ∧ w'.ownsRow B 3 1 v' r.length (ints r)
theorem row_new (w : World) (B : Nat) (hB : B ≤ w.heap.size) : (w.alloc (.cells #[] 3)).ownsRow B 3 1 (.slice (some ⟨w.heap.size, 0, none⟩) 0 0) 0 (ints []) := by
  have h := World.ownsRow_lit (base := B) (e := 3) (size := 1) w #[] 0 hB (by decide) (by simp)
  simpa [ints] using h

theorem keepE6' {W w w' : World} {p0 p1 p2 p3 p4 p5 : Addr} {x0 x1 x2 x3 x4 x5 : Value} (hb : Below w.heap.size w w') (h : w.cell? p0 = some x0 ∧ w.cell? p1 = some x1 ∧ w.cell? p2 = some x2 ∧ w.cell? p3 = some x3 ∧ w.cell? p4 = some x4 ∧ w.cell? p5 = some x5 ∧ Below W.heap.size W w) : w'.cell? p0 = some x0 ∧ w'.cell? p1 = some x1 ∧ w'.cell? p2 = some x2 ∧ w'.cell? p3 = some x3 ∧ w'.cell? p4 = some x4 ∧ w'.cell? p5 = some x5 ∧ Below W.heap.size W w' := keepE6 hb h
theorem belE6 {W w : World} {p0 p1 p2 p3 p4 p5 : Addr} {x0 x1 x2 x3 x4 x5 : Value} (h : w.cell? p0 = some x0 ∧ w.cell? p1 = some x1 ∧ w.cell? p2 = some x2 ∧ w.cell? p3 = some x3 ∧ w.cell? p4 = some x4 ∧ w.cell? p5 = some x5 ∧ Below W.heap.size W w) : Below W.heap.size W w := h.2.2.2.2.2.2

set_option maxRecDepth 100000 in
set_option maxHeartbeats 4000000 in
theorem implStopTimes_any (v : Value) (t : TTD) (id : Int) (w : World) (hr : TTAt w v t) (hf : TTFits t) (hs : TTSmall t) :
    Calls Try.prog 80 #[v, .int .i64 id] w fun e w' => StAns w.heap.size (stF t id).1 (stF t id).2 e w' ∧ Below w.heap.size w w' := by
  have HTT := Lib.hid hr
  have HN := Lib.hid (fun W (hW : Below w.heap.size w W) => implTripNumber_any v t id W (hr.below rfl hW) hf hs)
  obtain ⟨a, c, a', c', b, d, rfl, hn, ht⟩ := tt_open hr
  have HNt := Lib.hid hn
  have HT := Lib.hid ht
  clear hr hf hs hn ht
  by_cases hok : TTGood t ∧ foundB id t.trips = true
  · rw [show stF t id = (stopL t (placeOf id t.trips), true) from if_pos hok]
    rw [show numF t id = ((placeOf id t.trips : Int), true) from if_pos hok] at HN
    obtain ⟨hg, hfd⟩ := hok
    obtain ⟨-, hpl⟩ := findI_found hg.Asc hfd
    obtain ⟨k, hk, hkl, -⟩ := hg.line _ hpl
    have hst := (hg.step _ hpl).2.2.1.2.1
    obtain ⟨hl1, hl2, hl3⟩ := line_facts hg.1 k hkl
    rw [stopL_at hpl hk hkl]
    have HTm := Lib.hid (fun W (hW : Below w.heap.size w W) => stopTimesOf_any _ t.net (t.trips[placeOf id t.trips]) W (HNt.out.below rfl hW) k hk hkl hl2 hl3 hst.1 hst.2)
    obtain ⟨g, go, rfl, hgb, y0, y1, y2⟩ := trip_at HT.out _ hpl
    clear hg hfd hk hl1 hl2 hl3 hst
    generalize placeOf id t.trips = p at *
    have hp1 : (p : Int) < (t.trips.length : Int) := by omega
    have hp0 : (0 : Int) ≤ (p : Int) := by omega
    simp only
    generalize hT : tk _ _ _ = T at *
    have hTl : T.length = t.net.lines[k].runs.length + 1 := by rw [← hT, tk_len]
    rw [← hTl] at HTm
    clear hT hTl
    unfold tripV at HTm
    generalize t.trips[p] = x at *
    obtain ⟨xi, xl, xs⟩ := x
    simp only at *
    go_enter Try.func80, Try.ntmps80
    go_wp2_with fail
    go_at_call 179
    refine (HN.out _ ((Below.refl _ _).alloc (Nat.le_refl _) _)).mono ?_
    rintro e w1 ⟨rfl, hb1⟩
    have HB1 : Hid (Below w.heap.size w w1) := ((Below.refl _ _).alloc (Nat.le_refl _) _).trans (hb1.mono (by simp))
    have q0 : w1.cell? ⟨w.heap.size, 0, none⟩ = some (.slice a t.net.stops.length c) := bkeep hb1 (by go_simp)
    have q1 : w1.cell? ⟨w.heap.size, 1, none⟩ = some (.slice a' t.net.lines.length c') := bkeep hb1 (by go_simp)
    have q2 : w1.cell? ⟨w.heap.size, 2, none⟩ = some (.slice (some ⟨g, go, none⟩) t.trips.length d) := bkeep hb1 (by go_simp)
    have z0 := bkeep HB1.out y0
    have z1 := bkeep HB1.out y1
    have z2 := bkeep HB1.out y2
    have hbel := HB1.out
    clear hb1 y0 y1 y2
    go_wp2_with fail
    go_region_held3 (fun w' => w'.cell? ⟨w.heap.size, 0, none⟩ = some (.slice a t.net.stops.length c) ∧ w'.cell? ⟨w.heap.size, 1, none⟩ = some (.slice a' t.net.lines.length c') ∧ w'.cell? ⟨w.heap.size, 2, none⟩ = some (.slice (some ⟨g, go, none⟩) t.trips.length d) ∧ w'.cell? ⟨g, go + p * 3, none⟩ = some (.int .i64 xi) ∧ w'.cell? ⟨g, go + p * 3 + 1, none⟩ = some (.int .i64 xl) ∧ w'.cell? ⟨g, go + p * 3 + 2, none⟩ = some (.int .i64 xs) ∧ Below w.heap.size w w')
      (first | (exact ⟨q0, q1, q2, z0, z1, z2, hbel.drew⟩) | (exact keepE6 hb (by assumption)))
      ((go_at_call 181; refine (HTm.out _ (belE6 (by assumption))).mono ?_; rintro e w' ⟨⟨v', rfl, hown⟩, hb⟩; have hlow := (belE6 (by assumption)).size))
    all_goals
      obtain ⟨-, -, -, -, -, -, qb⟩ := (by assumption : _ ∧ _)
      have HO := Lib.hid (own_base hown hlow)
      clear hown hlow
      go_wp2_with fail
      go_ret2
      exact ⟨⟨v', rfl, HO.out⟩, qb⟩
  · rw [show stF t id = ([], false) from if_neg hok]
    rw [show numF t id = (0, false) from if_neg hok] at HN
    clear hok
    go_enter Try.func80, Try.ntmps80
    go_wp2_with fail
    go_at_call 179
    refine (HN.out _ ((Below.refl _ _).alloc (Nat.le_refl _) _)).mono ?_
    rintro e w1 ⟨rfl, hb1⟩
    have HB1 : Hid (Below w.heap.size w w1) := ((Below.refl _ _).alloc (Nat.le_refl _) _).trans (hb1.mono (by simp))
    clear hb1
    go_wp2_with fail
    go_ret2
    exact ⟨⟨.slice (some ⟨w1.heap.size, 0, none⟩) 0 0, rfl, row_new w1 _ HB1.out.size⟩, HB1.out.alloc HB1.out.size _⟩

theorem st_in {w w' : World} {r : List Int} {b : Bool} {e : Ending} (h : StAns w.heap.size r b e w' ∧ Below w.heap.size w w') : ∃ v', e = .returned (.tuple #[v', .bool b]) ∧ IntsIn w.heap.size w'.heap.size w' v' r ∧ Below w.heap.size w w' := by
  obtain ⟨⟨v', he, ho⟩, hb⟩ := h
  exact ⟨v', he, IntsIn.mk ho, hb⟩
theorem stF_small (t : TTD) (id : Int) (hs : TTSmall t) : IntsSmall (stF t id).1 := by
  unfold stF
  split
  · rename_i h
    obtain ⟨hg, hfd⟩ := h
    obtain ⟨-, hpl⟩ := findI_found hg.Asc hfd
    obtain ⟨k, hk, hkl, -⟩ := hg.line _ hpl
    have := (line_facts hg.1 k hkl).2.1
    simp only [stopL_at hpl hk hkl, IntsSmall, tk_len]
    omega
  · simp [IntsSmall]
end Go.Proofs.Ytffcgblionlhhaa
