/-
  CONTRACTS: spec.ChangeTime, impl.ChangeTime; both sides.
-/
import Derived.Test.YtmbpkdplgfgheaaChangeP
import Derived.Test.YtmbpkdplgfgheaaL7Times
import Derived.Test.YtmbpkdplgfgheaaL7Good
namespace Go.Proofs.Ytmbpkdplgfgheaa
open Go.RowKit
set_option linter.unusedVariables false
set_option linter.unusedSimpArgs false

def lnOf (n : NetD) (x : TripD) : LineD := n.lines.getD x.line.toNat ⟨ByteArray.empty, [], []⟩
theorem lineOf_tt {t : TTD} (h : TTGood t) {i : Nat} (hi : i < t.trips.length) : ∃ li, ∃ g : LineOf t.net t.trips[i] li, lnOf t.net t.trips[i] = t.net.lines[li]'g.lt := by
  obtain ⟨h1, h2, hc, h4⟩ := h.2.2 i hi hi
  obtain ⟨li, hli⟩ := Int.eq_ofNat_of_zero_le hc.1.1
  have hlt : li < t.net.lines.length := by have := hc.1.2; omega
  have hg := (good_line h.1 li hlt).2
  have hf := line_facts h.1 li hlt
  have e : lnOf t.net t.trips[i] = t.net.lines[li]'hlt := by unfold lnOf; rw [hli]; simp [hlt]
  exact ⟨li, ⟨hli, hlt, hf.1, hf.2.1, hf.2.2, hc.2.1.1, hc.2.1.2, hg.2.1⟩, e⟩
def tkOf (n : NetD) (x : TripD) : List Int := tk x.start (lnOf n x).runs ((lnOf n x).runs.length + 1)
noncomputable def ctIn (t : TTD) (ws : List WlkD) (i j : Nat) : Option (Int × Int) :=
  match t.trips[i]?, t.trips[j]? with
  | some x, some y => chF ws t.net.stops.length (lnOf t.net x).stops (tkOf t.net x) (lnOf t.net y).stops (tkOf t.net y) (lnOf t.net y).runs.length (lnOf t.net x).runs.length
  | _, _ => none
noncomputable def ctRes (t : TTD) (ws : List WlkD) (a b : Int) : Option (Int × Int) :=
  if ttB t = true ∧ walksB t.net ws = true ∧ a ≠ b ∧ foundB a t.trips = true ∧ foundB b t.trips = true then ctIn t ws (placeOf a t.trips) (placeOf b t.trips) else none
theorem ttB_iff {t : TTD} (h : ttB t = true) : TTGood t := of_decide_eq_true h
theorem ret_ch {r s : Option (Int × Int)} (h : r = s) : Ending.returned (.tuple #[.int .i64 (bestV r), .int .i64 (stopV r), .bool r.isSome]) = .returned (.tuple #[.int .i64 (bestV s), .int .i64 (stopV s), .bool s.isSome]) := by rw [h]
theorem keepT3 {W w w' : World} {p0 p1 p2 : Addr} {x0 x1 x2 : Value} (hb : Below w.heap.size w w') (h : w.cell? p0 = some x0 ∧ w.cell? p1 = some x1 ∧ w.cell? p2 = some x2 ∧ Below W.heap.size W w) :
    w'.cell? p0 = some x0 ∧ w'.cell? p1 = some x1 ∧ w'.cell? p2 = some x2 ∧ Below W.heap.size W w' := by
  obtain ⟨h0, h1, h2, hl⟩ := h
  exact ⟨bkeep hb h0, bkeep hb h1, bkeep hb h2, hl.trans (hb.mono hl.size)⟩
theorem keepT4 {W w w' : World} {p0 p1 p2 p3 : Addr} {x0 x1 x2 x3 : Value} (hb : Below w.heap.size w w') (h : w.cell? p0 = some x0 ∧ w.cell? p1 = some x1 ∧ w.cell? p2 = some x2 ∧ w.cell? p3 = some x3 ∧ Below W.heap.size W w) :
    w'.cell? p0 = some x0 ∧ w'.cell? p1 = some x1 ∧ w'.cell? p2 = some x2 ∧ w'.cell? p3 = some x3 ∧ Below W.heap.size W w' := by
  obtain ⟨h0, h1, h2, h3, hl⟩ := h
  exact ⟨bkeep hb h0, bkeep hb h1, bkeep hb h2, bkeep hb h3, hl.trans (hb.mono hl.size)⟩
theorem keepT9 {W w w' : World} {p0 p1 p2 p3 p4 p5 p6 p7 p8 : Addr} {x0 x1 x2 x3 x4 x5 x6 x7 x8 : Value} (hb : Below w.heap.size w w')
    (h : w.cell? p0 = some x0 ∧ w.cell? p1 = some x1 ∧ w.cell? p2 = some x2 ∧ w.cell? p3 = some x3 ∧ w.cell? p4 = some x4 ∧ w.cell? p5 = some x5 ∧ w.cell? p6 = some x6 ∧ w.cell? p7 = some x7 ∧ w.cell? p8 = some x8 ∧ Below W.heap.size W w) :
    w'.cell? p0 = some x0 ∧ w'.cell? p1 = some x1 ∧ w'.cell? p2 = some x2 ∧ w'.cell? p3 = some x3 ∧ w'.cell? p4 = some x4 ∧ w'.cell? p5 = some x5 ∧ w'.cell? p6 = some x6 ∧ w'.cell? p7 = some x7 ∧ w'.cell? p8 = some x8 ∧ Below W.heap.size W w' := by
  obtain ⟨h0, h1, h2, h3, h4, h5, h6, h7, h8, hl⟩ := h
  exact ⟨bkeep hb h0, bkeep hb h1, bkeep hb h2, bkeep hb h3, bkeep hb h4, bkeep hb h5, bkeep hb h6, bkeep hb h7, bkeep hb h8, hl.trans (hb.mono hl.size)⟩
theorem belT9 {W w : World} {p0 p1 p2 p3 p4 p5 p6 p7 p8 : Addr} {x0 x1 x2 x3 x4 x5 x6 x7 x8 : Value}
    (h : w.cell? p0 = some x0 ∧ w.cell? p1 = some x1 ∧ w.cell? p2 = some x2 ∧ w.cell? p3 = some x3 ∧ w.cell? p4 = some x4 ∧ w.cell? p5 = some x5 ∧ w.cell? p6 = some x6 ∧ w.cell? p7 = some x7 ∧ w.cell? p8 = some x8 ∧ Below W.heap.size W w) : Below W.heap.size W w := h.2.2.2.2.2.2.2.2.2
theorem belT3 {W w : World} {p0 p1 p2 : Addr} {x0 x1 x2 : Value} (h : w.cell? p0 = some x0 ∧ w.cell? p1 = some x1 ∧ w.cell? p2 = some x2 ∧ Below W.heap.size W w) : Below W.heap.size W w := h.2.2.2
theorem belT4 {W w : World} {p0 p1 p2 p3 : Addr} {x0 x1 x2 x3 : Value} (h : w.cell? p0 = some x0 ∧ w.cell? p1 = some x1 ∧ w.cell? p2 = some x2 ∧ w.cell? p3 = some x3 ∧ Below W.heap.size W w) : Below W.heap.size W w := h.2.2.2.2

set_option maxRecDepth 100000 in
set_option maxHeartbeats 4000000 in
theorem implChange_any (tv lv : Value) (t : TTD) (ws : List WlkD) (x y : Int) (w : World) (hr : TTAt w tv t) (hl : WalksAt w lv ws) (hf : TTFits t) (hs : TTSmall t) :
    Calls Try.prog 47 #[tv, lv, .int .i64 x, .int .i64 y] w fun e w' => e = .returned (.tuple #[.int .i64 (bestV (ctRes t ws x y)), .int .i64 (stopV (ctRes t ws x y)), .bool (ctRes t ws x y).isSome]) ∧ Below w.heap.size w w' := by
  have H1 := Lib.hid (fun W (h : Below w.heap.size w W) => implTT_any tv t W (hr.below rfl h) hf)
  have htt := hr
  obtain ⟨a, c, a', c', tb, td, rfl, hn, htr⟩ := tt_open htt
  have H2 := Lib.hid (fun W (h : Below w.heap.size w W) => implWalks_any (.agg #[.slice a t.net.stops.length c, .slice a' t.net.lines.length c']) lv t.net ws W (hn.below rfl h) (hl.below rfl h) hf.1)
  have hsz := hs.2
  unfold TripsSmall at hsz
  by_cases h1 : ttB t = true
  · rw [h1] at H1
    have hg := ttB_iff h1
    have hasc : Asc t.trips := fun i j hij hj => hg.asc i j hij hj
    have H3 := Lib.hid (fun W (h : Below w.heap.size w W) => tripPlace_any (.slice tb t.trips.length td) t.trips x W (htr.below rfl h) hsz hasc)
    have H4 := Lib.hid (fun W (h : Below w.heap.size w W) => tripPlace_any (.slice tb t.trips.length td) t.trips y W (htr.below rfl h) hsz hasc)
    by_cases h2 : walksB t.net ws = true
    · rw [h2] at H2
      by_cases h3 : x = y
      · rw [show ctRes t ws x y = none from if_neg (fun h => h.2.2.1 h3)]
        have hd : (x == y) = true := by simpa using h3
        obtain ⟨lb, ld, rfl⟩ := WalkS_open hl
        clear hr hl hf hs hn htr h1 h2 h3 hg hasc H3 H4
        go_enter Try.func47, Try.ntmps47
        go_wp2_with fail
        go_at_call 113
        refine (H1.out _ ((Below.refl _ _).alloc (Nat.le_refl _) _)).mono ?_
        rintro e w1 ⟨rfl, hb1⟩
        have p0 : w1.cell? ⟨w.heap.size, 0, none⟩ = some (.slice a t.net.stops.length c) := bkeep hb1 (by go_simp)
        have p1 : w1.cell? ⟨w.heap.size, 1, none⟩ = some (.slice a' t.net.lines.length c') := bkeep hb1 (by go_simp)
        have p2 : w1.cell? ⟨w.heap.size, 2, none⟩ = some (.slice tb t.trips.length td) := bkeep hb1 (by go_simp)
        have HB1 : Hid (Below w.heap.size w w1 ∧ w.heap.size < w1.heap.size) := ⟨((Below.refl _ _).alloc (Nat.le_refl _) _).trans (hb1.mono (by simp)), by have := hb1.size; simp at this; omega⟩
        clear hb1
        go_wp2_with fail
        go_at_call 33
        refine (H2.out _ (HB1.out.1)).mono ?_
        rintro e w2 ⟨rfl, hb2⟩
        have p0 : w2.cell? ⟨w.heap.size, 0, none⟩ = some (.slice a t.net.stops.length c) := bkeep hb2 p0
        have p1 : w2.cell? ⟨w.heap.size, 1, none⟩ = some (.slice a' t.net.lines.length c') := bkeep hb2 p1
        have p2 : w2.cell? ⟨w.heap.size, 2, none⟩ = some (.slice tb t.trips.length td) := bkeep hb2 p2
        have HB2 : Hid (Below w.heap.size w w2 ∧ w.heap.size < w2.heap.size) := ⟨HB1.out.1.trans (hb2.mono HB1.out.1.size), by have := hb2.size; have := HB1.out.2; omega⟩
        clear hb2 HB1
        go_wp2_with fail
        go_ret3
        exact ⟨rfl, HB2.out.1⟩
      · have hd : (x == y) = false := by simpa using h3
        by_cases h4 : foundB x t.trips = true
        · by_cases h5 : foundB y t.trips = true
          · rw [h4] at H3
            rw [h5] at H4
            obtain ⟨ei, hi⟩ := findI_found hasc h4
            obtain ⟨ej, hj⟩ := findI_found hasc h5
            have HE : Hid (ctRes t ws x y = ctIn t ws (placeOf x t.trips) (placeOf y t.trips)) := if_pos ⟨h1, h2, h3, h4, h5⟩
            rw [HE.out]
            generalize placeOf x t.trips = i at *
            generalize placeOf y t.trips = j at *
            obtain ⟨la, ga, hla⟩ := lineOf_tt hg hi
            obtain ⟨lb2, gb, hlb2⟩ := lineOf_tt hg hj
            have hv := (walksB_iff h2).2
            have HRes : Hid (chF ws t.net.stops.length (lnOf t.net t.trips[i]).stops (tkOf t.net t.trips[i]) (lnOf t.net t.trips[j]).stops (tkOf t.net t.trips[j]) (lnOf t.net t.trips[j]).runs.length (lnOf t.net t.trips[i]).runs.length = ctIn t ws i j) := by
              show _ = _
              unfold ctIn; rw [List.getElem?_eq_getElem hi, List.getElem?_eq_getElem hj]
            have H5 := Lib.hid (fun W (h : Below w.heap.size w W) => changeOf_any (.agg #[.slice a t.net.stops.length c, .slice a' t.net.lines.length c']) lv t.net ws t.trips[i] t.trips[j] la lb2 W (hn.below rfl h) (hl.below rfl h) hv (netGood_stops hg.1) ga gb (lnOf t.net t.trips[i]) (lnOf t.net t.trips[j]) hla.symm hlb2.symm (tkOf t.net t.trips[i]) (tkOf t.net t.trips[j]) rfl rfl _ HRes.out)
            obtain ⟨g, go, rfl, hgb, y0, y1, y2⟩ := trip_at htr i hi
            obtain ⟨g', go', he, _, v0, v1, v2⟩ := trip_at htr j hj
            simp only [Option.some.injEq, Addr.mk.injEq] at he
            obtain ⟨rfl, rfl, -⟩ := he
            generalize ctIn t ws i j = res at *
            have hi1 : (i : Int) < (t.trips.length : Int) := by omega
            have hj1 : (j : Int) < (t.trips.length : Int) := by omega
            obtain ⟨lb, ld, rfl⟩ := WalkS_open hl
            generalize t.trips[i] = xa at *
            generalize t.trips[j] = xb at *
            obtain ⟨ai, al, as0⟩ := xa
            obtain ⟨bi, bl, bs0⟩ := xb
            unfold tripV at H5
            simp only at *
            clear hr hl hf hs hn htr h1 h2 h3 h4 h5 hg hasc HE HRes ga gb hla hlb2 hv ei ej
            have tb : Option Addr := some ⟨g, go, none⟩
            clear tb
            go_enter Try.func47, Try.ntmps47
            go_wp2_with fail
            go_at_call 113
            refine (H1.out _ ((Below.refl _ _).alloc (Nat.le_refl _) _)).mono ?_
            rintro e w1 ⟨rfl, hb1⟩
            have p0 : w1.cell? ⟨w.heap.size, 0, none⟩ = some (.slice a t.net.stops.length c) := bkeep hb1 (by go_simp)
            have p1 : w1.cell? ⟨w.heap.size, 1, none⟩ = some (.slice a' t.net.lines.length c') := bkeep hb1 (by go_simp)
            have p2 : w1.cell? ⟨w.heap.size, 2, none⟩ = some (.slice (some ⟨g, go, none⟩) t.trips.length td) := bkeep hb1 (by go_simp)
            have HB1 : Hid (Below w.heap.size w w1 ∧ w.heap.size < w1.heap.size) := ⟨((Below.refl _ _).alloc (Nat.le_refl _) _).trans (hb1.mono (by simp)), by have := hb1.size; simp at this; omega⟩
            clear hb1
            go_wp2_with fail
            go_at_call 33
            refine (H2.out _ (HB1.out.1)).mono ?_
            rintro e w2 ⟨rfl, hb2⟩
            have p0 : w2.cell? ⟨w.heap.size, 0, none⟩ = some (.slice a t.net.stops.length c) := bkeep hb2 p0
            have p1 : w2.cell? ⟨w.heap.size, 1, none⟩ = some (.slice a' t.net.lines.length c') := bkeep hb2 p1
            have p2 : w2.cell? ⟨w.heap.size, 2, none⟩ = some (.slice (some ⟨g, go, none⟩) t.trips.length td) := bkeep hb2 p2
            have HB2 : Hid (Below w.heap.size w w2 ∧ w.heap.size < w2.heap.size) := ⟨HB1.out.1.trans (hb2.mono HB1.out.1.size), by have := hb2.size; have := HB1.out.2; omega⟩
            clear hb2 HB1
            go_wp2_with fail
            go_at_call 128
            refine (H3.out _ (HB2.out.1)).mono ?_
            rintro e w3 ⟨rfl, hb3⟩
            have p0 : w3.cell? ⟨w.heap.size, 0, none⟩ = some (.slice a t.net.stops.length c) := bkeep hb3 p0
            have p1 : w3.cell? ⟨w.heap.size, 1, none⟩ = some (.slice a' t.net.lines.length c') := bkeep hb3 p1
            have p2 : w3.cell? ⟨w.heap.size, 2, none⟩ = some (.slice (some ⟨g, go, none⟩) t.trips.length td) := bkeep hb3 p2
            have HB3 : Hid (Below w.heap.size w w3 ∧ w.heap.size < w3.heap.size) := ⟨HB2.out.1.trans (hb3.mono HB2.out.1.size), by have := hb3.size; have := HB2.out.2; omega⟩
            clear hb3 HB2
            go_wp2_with fail
            go_at_call 128
            refine (H4.out _ (HB3.out.1)).mono ?_
            rintro e w4 ⟨rfl, hb4⟩
            have p0 : w4.cell? ⟨w.heap.size, 0, none⟩ = some (.slice a t.net.stops.length c) := bkeep hb4 p0
            have p1 : w4.cell? ⟨w.heap.size, 1, none⟩ = some (.slice a' t.net.lines.length c') := bkeep hb4 p1
            have p2 : w4.cell? ⟨w.heap.size, 2, none⟩ = some (.slice (some ⟨g, go, none⟩) t.trips.length td) := bkeep hb4 p2
            have HB4 : Hid (Below w.heap.size w w4 ∧ w.heap.size < w4.heap.size) := ⟨HB3.out.1.trans (hb4.mono HB3.out.1.size), by have := hb4.size; have := HB3.out.2; omega⟩
            clear hb4 HB3
            go_wp2_with fail
            have y0 := bkeep HB4.out.1 y0
            have y1 := bkeep HB4.out.1 y1
            have y2 := bkeep HB4.out.1 y2
            have v0 := bkeep HB4.out.1 v0
            have v1 := bkeep HB4.out.1 v1
            have v2 := bkeep HB4.out.1 v2
            have hbel := HB4.out.1
            go_region_held3 (fun w' => w'.cell? ⟨w.heap.size, 0, none⟩ = some (.slice a t.net.stops.length c) ∧ w'.cell? ⟨w.heap.size, 1, none⟩ = some (.slice a' t.net.lines.length c') ∧ w'.cell? ⟨w.heap.size, 2, none⟩ = some (.slice (some ⟨g, go, none⟩) t.trips.length td) ∧ w'.cell? ⟨g, go + i * 3, none⟩ = some (.int .i64 ai) ∧ w'.cell? ⟨g, go + i * 3 + 1, none⟩ = some (.int .i64 al) ∧ w'.cell? ⟨g, go + i * 3 + 2, none⟩ = some (.int .i64 as0) ∧ w'.cell? ⟨g, go + j * 3, none⟩ = some (.int .i64 bi) ∧ w'.cell? ⟨g, go + j * 3 + 1, none⟩ = some (.int .i64 bl) ∧ w'.cell? ⟨g, go + j * 3 + 2, none⟩ = some (.int .i64 bs0) ∧ Below w.heap.size w w')
              (first | (exact ⟨p0, p1, p2, y0, y1, y2, v0, v1, v2, hbel.drew⟩) | (exact keepT9 hb (by assumption)))
              ((go_at_call 129; refine (H5.out _ (belT9 (by assumption))).mono ?_; rintro e w' ⟨rfl, hb⟩))
            have qb := belT9 (by assumption)
            go_wp2_with fail
            go_ret3
            exact ⟨rfl, qb⟩
          · rw [show ctRes t ws x y = none from if_neg (fun h => h5 h.2.2.2.2)]
            have h5 : foundB y t.trips = false := by simpa using h5
            rw [h4] at H3
            rw [h5] at H4
            obtain ⟨lb, ld, rfl⟩ := WalkS_open hl
            clear hr hl hf hs hn htr h1 h2 h3 h4 h5 hg hasc
            go_enter Try.func47, Try.ntmps47
            go_wp2_with fail
            go_at_call 113
            refine (H1.out _ ((Below.refl _ _).alloc (Nat.le_refl _) _)).mono ?_
            rintro e w1 ⟨rfl, hb1⟩
            have p0 : w1.cell? ⟨w.heap.size, 0, none⟩ = some (.slice a t.net.stops.length c) := bkeep hb1 (by go_simp)
            have p1 : w1.cell? ⟨w.heap.size, 1, none⟩ = some (.slice a' t.net.lines.length c') := bkeep hb1 (by go_simp)
            have p2 : w1.cell? ⟨w.heap.size, 2, none⟩ = some (.slice tb t.trips.length td) := bkeep hb1 (by go_simp)
            have HB1 : Hid (Below w.heap.size w w1 ∧ w.heap.size < w1.heap.size) := ⟨((Below.refl _ _).alloc (Nat.le_refl _) _).trans (hb1.mono (by simp)), by have := hb1.size; simp at this; omega⟩
            clear hb1
            go_wp2_with fail
            go_at_call 33
            refine (H2.out _ (HB1.out.1)).mono ?_
            rintro e w2 ⟨rfl, hb2⟩
            have p0 : w2.cell? ⟨w.heap.size, 0, none⟩ = some (.slice a t.net.stops.length c) := bkeep hb2 p0
            have p1 : w2.cell? ⟨w.heap.size, 1, none⟩ = some (.slice a' t.net.lines.length c') := bkeep hb2 p1
            have p2 : w2.cell? ⟨w.heap.size, 2, none⟩ = some (.slice tb t.trips.length td) := bkeep hb2 p2
            have HB2 : Hid (Below w.heap.size w w2 ∧ w.heap.size < w2.heap.size) := ⟨HB1.out.1.trans (hb2.mono HB1.out.1.size), by have := hb2.size; have := HB1.out.2; omega⟩
            clear hb2 HB1
            go_wp2_with fail
            go_at_call 128
            refine (H3.out _ (HB2.out.1)).mono ?_
            rintro e w3 ⟨rfl, hb3⟩
            have p0 : w3.cell? ⟨w.heap.size, 0, none⟩ = some (.slice a t.net.stops.length c) := bkeep hb3 p0
            have p1 : w3.cell? ⟨w.heap.size, 1, none⟩ = some (.slice a' t.net.lines.length c') := bkeep hb3 p1
            have p2 : w3.cell? ⟨w.heap.size, 2, none⟩ = some (.slice tb t.trips.length td) := bkeep hb3 p2
            have HB3 : Hid (Below w.heap.size w w3 ∧ w.heap.size < w3.heap.size) := ⟨HB2.out.1.trans (hb3.mono HB2.out.1.size), by have := hb3.size; have := HB2.out.2; omega⟩
            clear hb3 HB2
            go_wp2_with fail
            go_at_call 128
            refine (H4.out _ (HB3.out.1)).mono ?_
            rintro e w4 ⟨rfl, hb4⟩
            have p0 : w4.cell? ⟨w.heap.size, 0, none⟩ = some (.slice a t.net.stops.length c) := bkeep hb4 p0
            have p1 : w4.cell? ⟨w.heap.size, 1, none⟩ = some (.slice a' t.net.lines.length c') := bkeep hb4 p1
            have p2 : w4.cell? ⟨w.heap.size, 2, none⟩ = some (.slice tb t.trips.length td) := bkeep hb4 p2
            have HB4 : Hid (Below w.heap.size w w4 ∧ w.heap.size < w4.heap.size) := ⟨HB3.out.1.trans (hb4.mono HB3.out.1.size), by have := hb4.size; have := HB3.out.2; omega⟩
            clear hb4 HB3
            go_wp2_with fail
            go_ret3
            exact ⟨rfl, HB4.out.1⟩
        · rw [show ctRes t ws x y = none from if_neg (fun h => h4 h.2.2.2.1)]
          have h4 : foundB x t.trips = false := by simpa using h4
          rw [h4] at H3
          obtain ⟨lb, ld, rfl⟩ := WalkS_open hl
          clear hr hl hf hs hn htr h1 h2 h3 h4 hg hasc
          go_enter Try.func47, Try.ntmps47
          go_wp2_with fail
          go_at_call 113
          refine (H1.out _ ((Below.refl _ _).alloc (Nat.le_refl _) _)).mono ?_
          rintro e w1 ⟨rfl, hb1⟩
          have p0 : w1.cell? ⟨w.heap.size, 0, none⟩ = some (.slice a t.net.stops.length c) := bkeep hb1 (by go_simp)
          have p1 : w1.cell? ⟨w.heap.size, 1, none⟩ = some (.slice a' t.net.lines.length c') := bkeep hb1 (by go_simp)
          have p2 : w1.cell? ⟨w.heap.size, 2, none⟩ = some (.slice tb t.trips.length td) := bkeep hb1 (by go_simp)
          have HB1 : Hid (Below w.heap.size w w1 ∧ w.heap.size < w1.heap.size) := ⟨((Below.refl _ _).alloc (Nat.le_refl _) _).trans (hb1.mono (by simp)), by have := hb1.size; simp at this; omega⟩
          clear hb1
          go_wp2_with fail
          go_at_call 33
          refine (H2.out _ (HB1.out.1)).mono ?_
          rintro e w2 ⟨rfl, hb2⟩
          have p0 : w2.cell? ⟨w.heap.size, 0, none⟩ = some (.slice a t.net.stops.length c) := bkeep hb2 p0
          have p1 : w2.cell? ⟨w.heap.size, 1, none⟩ = some (.slice a' t.net.lines.length c') := bkeep hb2 p1
          have p2 : w2.cell? ⟨w.heap.size, 2, none⟩ = some (.slice tb t.trips.length td) := bkeep hb2 p2
          have HB2 : Hid (Below w.heap.size w w2 ∧ w.heap.size < w2.heap.size) := ⟨HB1.out.1.trans (hb2.mono HB1.out.1.size), by have := hb2.size; have := HB1.out.2; omega⟩
          clear hb2 HB1
          go_wp2_with fail
          go_at_call 128
          refine (H3.out _ (HB2.out.1)).mono ?_
          rintro e w3 ⟨rfl, hb3⟩
          have p0 : w3.cell? ⟨w.heap.size, 0, none⟩ = some (.slice a t.net.stops.length c) := bkeep hb3 p0
          have p1 : w3.cell? ⟨w.heap.size, 1, none⟩ = some (.slice a' t.net.lines.length c') := bkeep hb3 p1
          have p2 : w3.cell? ⟨w.heap.size, 2, none⟩ = some (.slice tb t.trips.length td) := bkeep hb3 p2
          have HB3 : Hid (Below w.heap.size w w3 ∧ w.heap.size < w3.heap.size) := ⟨HB2.out.1.trans (hb3.mono HB2.out.1.size), by have := hb3.size; have := HB2.out.2; omega⟩
          clear hb3 HB2
          go_wp2_with fail
          go_at_call 128
          refine (H4.out _ (HB3.out.1)).mono ?_
          rintro e w4 ⟨rfl, hb4⟩
          have p0 : w4.cell? ⟨w.heap.size, 0, none⟩ = some (.slice a t.net.stops.length c) := bkeep hb4 p0
          have p1 : w4.cell? ⟨w.heap.size, 1, none⟩ = some (.slice a' t.net.lines.length c') := bkeep hb4 p1
          have p2 : w4.cell? ⟨w.heap.size, 2, none⟩ = some (.slice tb t.trips.length td) := bkeep hb4 p2
          have HB4 : Hid (Below w.heap.size w w4 ∧ w.heap.size < w4.heap.size) := ⟨HB3.out.1.trans (hb4.mono HB3.out.1.size), by have := hb4.size; have := HB3.out.2; omega⟩
          clear hb4 HB3
          go_wp2_with fail
          go_ret3
          exact ⟨rfl, HB4.out.1⟩
    · rw [show ctRes t ws x y = none from if_neg (fun h => h2 h.2.1)]
      have h2 : walksB t.net ws = false := by simpa using h2
      rw [h2] at H2
      obtain ⟨lb, ld, rfl⟩ := WalkS_open hl
      clear hr hl hf hs hn htr h1 h2 hg hasc H3 H4
      go_enter Try.func47, Try.ntmps47
      go_wp2_with fail
      go_at_call 113
      refine (H1.out _ ((Below.refl _ _).alloc (Nat.le_refl _) _)).mono ?_
      rintro e w1 ⟨rfl, hb1⟩
      have p0 : w1.cell? ⟨w.heap.size, 0, none⟩ = some (.slice a t.net.stops.length c) := bkeep hb1 (by go_simp)
      have p1 : w1.cell? ⟨w.heap.size, 1, none⟩ = some (.slice a' t.net.lines.length c') := bkeep hb1 (by go_simp)
      have p2 : w1.cell? ⟨w.heap.size, 2, none⟩ = some (.slice tb t.trips.length td) := bkeep hb1 (by go_simp)
      have HB1 : Hid (Below w.heap.size w w1 ∧ w.heap.size < w1.heap.size) := ⟨((Below.refl _ _).alloc (Nat.le_refl _) _).trans (hb1.mono (by simp)), by have := hb1.size; simp at this; omega⟩
      clear hb1
      go_wp2_with fail
      go_at_call 33
      refine (H2.out _ (HB1.out.1)).mono ?_
      rintro e w2 ⟨rfl, hb2⟩
      have p0 : w2.cell? ⟨w.heap.size, 0, none⟩ = some (.slice a t.net.stops.length c) := bkeep hb2 p0
      have p1 : w2.cell? ⟨w.heap.size, 1, none⟩ = some (.slice a' t.net.lines.length c') := bkeep hb2 p1
      have p2 : w2.cell? ⟨w.heap.size, 2, none⟩ = some (.slice tb t.trips.length td) := bkeep hb2 p2
      have HB2 : Hid (Below w.heap.size w w2 ∧ w.heap.size < w2.heap.size) := ⟨HB1.out.1.trans (hb2.mono HB1.out.1.size), by have := hb2.size; have := HB1.out.2; omega⟩
      clear hb2 HB1
      go_wp2_with fail
      go_ret3
      exact ⟨rfl, HB2.out.1⟩
  · rw [show ctRes t ws x y = none from if_neg (fun h => h1 h.1)]
    have h1 : ttB t = false := by simpa using h1
    rw [h1] at H1
    obtain ⟨lb, ld, rfl⟩ := WalkS_open hl
    clear hr hl hf hs hn htr h1 H2
    go_enter Try.func47, Try.ntmps47
    go_wp2_with fail
    go_at_call 113
    refine (H1.out _ ((Below.refl _ _).alloc (Nat.le_refl _) _)).mono ?_
    rintro e w1 ⟨rfl, hb1⟩
    have p0 : w1.cell? ⟨w.heap.size, 0, none⟩ = some (.slice a t.net.stops.length c) := bkeep hb1 (by go_simp)
    have p1 : w1.cell? ⟨w.heap.size, 1, none⟩ = some (.slice a' t.net.lines.length c') := bkeep hb1 (by go_simp)
    have p2 : w1.cell? ⟨w.heap.size, 2, none⟩ = some (.slice tb t.trips.length td) := bkeep hb1 (by go_simp)
    have HB1 : Hid (Below w.heap.size w w1 ∧ w.heap.size < w1.heap.size) := ⟨((Below.refl _ _).alloc (Nat.le_refl _) _).trans (hb1.mono (by simp)), by have := hb1.size; simp at this; omega⟩
    clear hb1
    go_wp2_with fail
    go_ret3
    exact ⟨rfl, HB1.out.1⟩
end Go.Proofs.Ytmbpkdplgfgheaa
