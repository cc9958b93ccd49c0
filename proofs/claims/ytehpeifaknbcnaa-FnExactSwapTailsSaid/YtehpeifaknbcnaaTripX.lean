import Derived.Test.YtehpeifaknbcnaaRows
import Derived.Test.YtehpeifaknbcnaaTrip
import Derived.LoopTactic
import Derived.WalkLawsBesides
import Derived.BigQuiet
import Derived.Deep.RegionHeld3
import Derived.Deep.QuietTactic
import Derived.Laws.Entries
namespace Go.Proofs.Ytehpeifaknbcnaa
open Go.RowKit
set_option linter.unusedVariables false

theorem infoTrip : (Try.prog.info? 89).map (fun i => (i.zero, i.size, i.bytes)) = some (some (.agg #[.int .i64 0, .int .i64 0, .int .i64 0]), 3, 24) := by kernel_rfl
def TripsSmall (xs : List TripD) : Prop := xs.length ≤ 1048576
def TripsFit (xs : List TripD) : Prop := ∀ s ∈ xs, TripWf s

theorem szTripS_x2 (v : Value) (xs : List TripD) (left : Int) (w : World) (hr : TripsAt w v xs) (_hf : TripsFit xs) (h0 : 0 ≤ left) (h1 : left ≤ 1048576) :
    Calls Try.prog 56 #[v, .int .i64 left] w fun e w' => (∃ r : Int, e = .returned (.int .i64 r) ∧ (r = -1 ∨ (0 ≤ r ∧ r ≤ left ∧ TripsSmall xs))) ∧ Below w.heap.size w w' := by
  obtain ⟨a, c, rfl, hc, hm, HC⟩ := trips_open hr
  clear hr _hf
  by_cases hneg : left - (xs.length : Int) < 0
  · go_enter Try.func56, Try.ntmps56
    go_wp2
    go_ret
    exact ⟨⟨-1, rfl, .inl rfl⟩, Below.refl _ _⟩
  · go_enter Try.func56, Try.ntmps56
    go_wp2
    go_ret
    exact ⟨⟨_, rfl, .inr ⟨by omega, by omega, by unfold TripsSmall; omega⟩⟩, Below.refl _ _⟩

theorem toTrip_any (s : TripD) (w : World) : Calls Try.prog 98 #[.agg #[.int .i64 s.id, .int .i64 s.line, .int .i64 s.start]] w fun e w' => e = .returned (.agg #[.int .i64 s.id, .int .i64 s.line, .int .i64 s.start]) ∧ Below w.heap.size w w' := by
  go_enter Try.func98, Try.ntmps98
  go_wp2_with fail
  refine bodyPost_ret (v := .agg #[.int .i64 s.id, .int .i64 s.line, .int .i64 s.start]) (by simp only [results, Try.results98]; go_simp) rfl ⟨rfl, ?_⟩
  exact (((Below.refl _ _).alloc (by simp <;> omega) _).alloc (by simp <;> omega) _).alloc (by simp <;> omega) _

theorem eqTrip_any (s : TripD) (w : World) : Calls Try.prog 101 #[.agg #[.int .i64 s.id, .int .i64 s.line, .int .i64 s.start], .agg #[.int .i64 s.id, .int .i64 s.line, .int .i64 s.start]] w fun e w' => e = .returned (.bool true) ∧ Below w.heap.size w w' := by
  have h0 : (s.id != s.id) = false := by simp
  have h1 : (s.line != s.line) = false := by simp
  have h2 : (s.start != s.start) = false := by simp
  go_enter Try.func101, Try.ntmps101
  go_wp2_with fail
  go_ret
  exact ⟨rfl, ((Below.refl _ _).alloc (by simp <;> omega) _).alloc (by simp <;> omega) _⟩

set_option maxHeartbeats 1000000 in
theorem toTripS_x (v : Value) (xs : List TripD) (w : World) (hr : TripsAt w v xs) (hn : TripsSmall xs) :
    Calls Try.prog 60 #[v] w fun e w' => ∃ a c, e = .returned (.slice a xs.length c) ∧ TripsIn w.heap.size w'.heap.size w' (.slice a xs.length c) xs ∧ Below w.heap.size w w' := by
  unfold TripsSmall at hn
  obtain ⟨a, c, rfl, hc, hm, HC⟩ := trips_open hr
  clear hr
  obtain ⟨i0, hi, hz0, hz1, hz2⟩ := info_parts infoTrip
  go_enter Try.func60, Try.ntmps60
  go_wp2_with (at_make; refine wpList_make_full _ rfl _ _ 47 rfl w.heap.size 89 i0 _ 3 Try.underlying47 hi hz0 hz1 .i64 .i64 (xs.length : Int) (xs.length : Int) xs.length rfl rfl rfl rfl ?c1 ?c2 ?c3 ?_)
  case c1 => rw [hz2]; omega
  case c2 => unfold maxLen; omega
  case c3 => exact Nat.le_refl _
  intro w1 hown hgrow
  have hbel : Below w.heap.size w w1 := (Below.refl _ _).grown hgrow (Nat.le_refl _) (fun k hk => by cases hk)
  have hzl := hown.1
  generalize Array.toList (madeCells _ _) = z0 at *
  clear hgrow
  go_wp2
  go_loopw [4] (fun i wr => ∃ k : Nat, k ≤ xs.length ∧ i = .int .i64 k ∧ (∃ zs : List Value, zs.length = xs.length * 3 ∧ Hid (zs.take (k * 3) = (tripC xs).take (k * 3)) ∧ Hid (wr.ownsRow w.heap.size 89 3 (.slice (some ⟨w.heap.size, 0, none⟩) xs.length xs.length) xs.length zs)) ∧ Hid (Below w.heap.size w wr))
    (fun i _ => xs.length - (RowKit.intOf i).toNat)
  case atStart => exact ⟨0, Nat.zero_le _, rfl, ⟨z0, hzl, rfl, hown⟩, hbel⟩
  case round =>
    obtain ⟨k, hk, rfl, ⟨zs, hzs, HT, HOwn⟩, HBel⟩ := hrel
    by_cases hlt : k < xs.length
    · obtain ⟨b, off, rfl, hbl, y0, y1, y2⟩ := HC.out k hlt
      have hx0 := HBel.out.cell (p := ⟨b, off + k * 3, none⟩) hbl
      rw [y0] at hx0
      have hx1 := HBel.out.cell (p := ⟨b, off + k * 3 + 1, none⟩) hbl
      rw [y1] at hx1
      have hx2 := HBel.out.cell (p := ⟨b, off + k * 3 + 2, none⟩) hbl
      rw [y2] at hx2
      have HTo := Lib.hid (toTrip_any xs[k] wr)
      clear y0 y1 y2 hbel hown
      go_wp2_with fail
      go_at_call 98
      refine HTo.out.mono ?_
      rintro e w2 ⟨rfl, hb1⟩
      have hown1 := own_later HOwn.out hb1
      have hgl := (HOwn.out.lt w.heap.size rfl).2
      have q0 : w2.cell? ⟨w.heap.size, k * 3, none⟩ = some (zs[k * 3]'(by omega)) := by rw [hown1.cellAt (k * 3) (by omega)]; exact List.getElem?_eq_getElem _
      have q1 : w2.cell? ⟨w.heap.size, k * 3 + 1, none⟩ = some (zs[k * 3 + 1]'(by omega)) := by rw [hown1.cellAt (k * 3 + 1) (by omega)]; exact List.getElem?_eq_getElem _
      have q2 : w2.cell? ⟨w.heap.size, k * 3 + 2, none⟩ = some (zs[k * 3 + 2]'(by omega)) := by rw [hown1.cellAt (k * 3 + 2) (by omega)]; exact List.getElem?_eq_getElem _
      have hf := fun o => hown1.frozenAt o
      have HOwn2 := Lib.hid (((hown1.stored (k * 3) (.int .i64 xs[k].id)).1.stored (k * 3 + 1) (.int .i64 xs[k].line)).1.stored (k * 3 + 2) (.int .i64 xs[k].start)).1
      have HT2 : Hid ((((zs.set (k * 3) (.int .i64 xs[k].id)).set (k * 3 + 1) (.int .i64 xs[k].line)).set (k * 3 + 2) (.int .i64 xs[k].start)).take ((k + 1) * 3) = (tripC xs).take ((k + 1) * 3)) := by
        have hl := tripC_len xs
        have e0 : (tripC xs)[k * 3]'(by omega) = .int .i64 xs[k].id := by
          have := tripC_get0 xs k hlt; rw [List.getElem?_eq_getElem (by omega)] at this; exact Option.some.inj this
        have e1 : (tripC xs)[k * 3 + 1]'(by omega) = .int .i64 xs[k].line := by
          have := tripC_get1 xs k hlt; rw [List.getElem?_eq_getElem (by omega)] at this; exact Option.some.inj this
        have e2 : (tripC xs)[k * 3 + 2]'(by omega) = .int .i64 xs[k].start := by
          have := tripC_get2 xs k hlt; rw [List.getElem?_eq_getElem (by omega)] at this; exact Option.some.inj this
        have s1 := take_set_succ zs (tripC xs) (k * 3) (by omega) (by omega) HT.out
        have s2 := take_set_succ (zs.set (k * 3) (.int .i64 xs[k].id)) (tripC xs) (k * 3 + 1) (by simp; omega) (by omega) (by rw [← e0]; exact s1)
        have s3 := take_set_succ ((zs.set (k * 3) (.int .i64 xs[k].id)).set (k * 3 + 1) (.int .i64 xs[k].line)) (tripC xs) (k * 3 + 2) (by simp; omega) (by omega) (by rw [← e1]; exact s2)
        rw [e2] at s3
        rw [show (k + 1) * 3 = k * 3 + 2 + 1 by omega]
        exact s3
      have HB1 : Hid (Below w.heap.size w w2) := HBel.out.trans (hb1.mono (by omega))
      generalize zs[k * 3] = o0 at *
      generalize zs[k * 3 + 1] = o1 at *
      generalize zs[k * 3 + 2] = o2 at *
      clear hown1 hb1 hx0 hx1 hx2 HOwn HT HBel
      go_wp2_with fail
      go_roundw
      case rel =>
        exact ⟨k + 1, by omega, by go_num, ⟨_, by simpa using hzs, HT2, HOwn2⟩, ((HB1.out.setCell (p := ⟨w.heap.size, _, none⟩) (Nat.le_refl _) _).setCell (p := ⟨w.heap.size, _, none⟩) (Nat.le_refl _) _).setCell (p := ⟨w.heap.size, _, none⟩) (Nat.le_refl _) _⟩
      case measure => simp [RowKit.intOf]; omega
    · go_wp2
      go_ret
      have hkl : k = xs.length := by omega
      have := HT.out
      rw [List.take_of_length_le (by omega), List.take_of_length_le (by rw [tripC_len]; omega)] at this
      refine ⟨some ⟨w.heap.size, 0, none⟩, xs.length, rfl, TripsIn.mk ?_, HBel.out⟩
      rw [← this]; exact HOwn.out

theorem keepE6 {W w w' : World} {p0 p1 p2 p3 p4 p5 : Addr} {x0 x1 x2 x3 x4 x5 : Value} (hb : Below w.heap.size w w') (h : w.cell? p0 = some x0 ∧ w.cell? p1 = some x1 ∧ w.cell? p2 = some x2 ∧ w.cell? p3 = some x3 ∧ w.cell? p4 = some x4 ∧ w.cell? p5 = some x5 ∧ Below W.heap.size W w) : w'.cell? p0 = some x0 ∧ w'.cell? p1 = some x1 ∧ w'.cell? p2 = some x2 ∧ w'.cell? p3 = some x3 ∧ w'.cell? p4 = some x4 ∧ w'.cell? p5 = some x5 ∧ Below W.heap.size W w' := by
  obtain ⟨h0, h1, h2, h3, h4, h5, hl⟩ := h
  exact ⟨bkeep hb h0, bkeep hb h1, bkeep hb h2, bkeep hb h3, bkeep hb h4, bkeep hb h5, hl.trans (hb.mono hl.size)⟩
set_option maxHeartbeats 1000000 in
theorem eqTripS_x (v v' : Value) (xs : List TripD) (w : World) (hr : TripsAt w v xs) (hr' : TripsAt w v' xs) (hs : TripsSmall xs) :
    Calls Try.prog 64 #[v, v'] w fun e w' => e = .returned (.bool true) ∧ Below w.heap.size w w' := by
  obtain ⟨a, c, rfl, hc, hm, HC⟩ := trips_open hr
  obtain ⟨a', c', rfl, hc', hm', HC'⟩ := trips_open hr'
  clear hr hr'
  go_enter Try.func64, Try.ntmps64
  go_wp2
  go_loopw [5] (fun i wr => ∃ k : Nat, k ≤ xs.length ∧ i = .int .i64 k ∧ Hid (Below w.heap.size w wr))
    (fun i _ => xs.length - (RowKit.intOf i).toNat)
  case atStart => exact ⟨0, Nat.zero_le _, rfl, Below.refl _ _⟩
  case round =>
    obtain ⟨k, hk, rfl, HB⟩ := hrel
    by_cases hlt : k < xs.length
    · obtain ⟨b, off, rfl, hbl, y0, y1, y2⟩ := HC.out k hlt
      obtain ⟨b', off', rfl, hbl', z0, z1, z2⟩ := HC'.out k hlt
      have hx0 := HB.out.cell (p := ⟨b, off + k * 3, none⟩) hbl
      rw [y0] at hx0
      have hx1 := HB.out.cell (p := ⟨b, off + k * 3 + 1, none⟩) hbl
      rw [y1] at hx1
      have hx2 := HB.out.cell (p := ⟨b, off + k * 3 + 2, none⟩) hbl
      rw [y2] at hx2
      have hu0 := HB.out.cell (p := ⟨b', off' + k * 3, none⟩) hbl'
      rw [z0] at hu0
      have hu1 := HB.out.cell (p := ⟨b', off' + k * 3 + 1, none⟩) hbl'
      rw [z1] at hu1
      have hu2 := HB.out.cell (p := ⟨b', off' + k * 3 + 2, none⟩) hbl'
      rw [z2] at hu2
      have HEq := Lib.hid (eqTrip_any xs[k])
      clear y0 y1 y2 z0 z1 z2
      have hk1 : (k : Int) < (xs.length : Int) := by omega
      generalize xs[k] = y at *
      have hbel := HB.out
      go_wp2_with fail
      go_region_held3 (fun w' => w'.cell? ⟨b, off + k * 3, none⟩ = some (.int .i64 y.id) ∧ w'.cell? ⟨b, off + k * 3 + 1, none⟩ = some (.int .i64 y.line) ∧ w'.cell? ⟨b, off + k * 3 + 2, none⟩ = some (.int .i64 y.start) ∧ w'.cell? ⟨b', off' + k * 3, none⟩ = some (.int .i64 y.id) ∧ w'.cell? ⟨b', off' + k * 3 + 1, none⟩ = some (.int .i64 y.line) ∧ w'.cell? ⟨b', off' + k * 3 + 2, none⟩ = some (.int .i64 y.start) ∧ Below w.heap.size w w')
        (first | (exact ⟨hx0, hx1, hx2, hu0, hu1, hu2, hbel.drew⟩) | (exact keepE6 hb (by assumption)))
        ((go_at_call 101; refine (HEq.out _).mono ?_; rintro e w' ⟨rfl, hb⟩))
      obtain ⟨_, _, _, _, _, _, qb⟩ := (by assumption : _ ∧ _)
      clear hx0 hx1 hx2 hu0 hu1 hu2 hbel HB
      go_wp2_with fail
      go_roundw
      case rel => exact ⟨k + 1, by omega, by go_num, qb⟩
      case measure => simp [RowKit.intOf]; omega
    · go_wp2
      go_ret
      exact ⟨rfl, HB.out⟩

def upTrips (k : Int) : Nat → List TripD
  | 0 => []
  | n + 1 => upTrips k n ++ [⟨k + 3 * (n : Int), k + 3 * (n : Int) + 1, k + 3 * (n : Int) + 1 + 1⟩]
theorem upTrips_len (k : Int) : ∀ n, (upTrips k n).length = n
  | 0 => rfl
  | n + 1 => by simp [upTrips, upTrips_len k n]
theorem upTrips_get (k : Int) : ∀ n j (h : j < (upTrips k n).length), (upTrips k n)[j] = ⟨k + 3 * (j : Int), k + 3 * (j : Int) + 1, k + 3 * (j : Int) + 1 + 1⟩
  | 0, j, h => by simp [upTrips] at h
  | n + 1, j, h => by
    simp only [upTrips]
    rw [List.getElem_append]
    have hl := upTrips_len k n
    split
    · exact upTrips_get k n j (by assumption)
    · have : j = n := by simp [upTrips, hl] at h; omega
      subst this
      simp

def TripsMk (k : Int) (w : World) (v : Value) (xs : List TripD) : Prop := TripsAt w v (upTrips k xs.length)
theorem TripsMk.later {k : Int} {w w' : World} {v : Value} {xs : List TripD} (h : TripsMk k w v xs) (hb : Below w.heap.size w w') : TripsMk k w' v xs := TripsAt.below h rfl hb

set_option maxHeartbeats 2000000 in
theorem markTripS_own (v : Value) (xs : List TripD) (k : Int) (B : Nat) (w : World) (hr : w.ownsRow B 89 3 v xs.length (tripC xs)) (hn : xs.length ≤ 1048576) (hk0 : 0 ≤ k) (hk : k ≤ 1073741824) :
    Calls Try.prog 81 #[v, .int .i64 k] w fun e w' => e = .returned (.int .i64 (k + 3 * (xs.length : Int))) ∧ w'.ownsRow B 89 3 v xs.length (tripC (upTrips k xs.length)) ∧ w.grownBy w' v.ownBlock := by
  obtain ⟨a, c, rfl⟩ := own_shape hr
  have HO := Lib.hid hr
  clear hr
  go_enter Try.func81, Try.ntmps81
  go_wp2
  go_loopw [1, 5] (fun q i wr => ∃ j : Nat, j ≤ xs.length ∧ i = .int .i64 j ∧ q = .int .i64 (k + 3 * (j : Int)) ∧ (∃ ys : List TripD, ys.length = xs.length ∧ Hid (ys.take j = (upTrips k xs.length).take j) ∧ Hid (wr.ownsRow B 89 3 (.slice a xs.length c) xs.length (tripC ys))) ∧ Hid (w.grownBy wr (Value.ownBlock (.slice a xs.length c))))
    (fun _ i _ => xs.length - (RowKit.intOf i).toNat)
  case atStart => exact ⟨0, Nat.zero_le _, rfl, by simp, ⟨_, rfl, rfl, HO.out⟩, World.grownBy.refl _ _⟩
  case round =>
    obtain ⟨j, hj, rfl, rfl, ⟨ys, hys, HT, HOwn⟩, HG⟩ := hrel
    by_cases hlt : j < xs.length
    · obtain ⟨_, h2⟩ := HOwn.out
      rcases h2 with ⟨hv, h0⟩ | ⟨g, cap, cur, hv, hg, hblk, h3, h4, h5, h6⟩
      · omega
      simp at hv
      obtain ⟨rfl, rfl⟩ := hv
      have hown := HOwn.out
      have hjl : j < ys.length := by omega
      have q0 : wr.cell? ⟨g, j * 3, none⟩ = some (.int .i64 ys[j].id) := by rw [hown.cellAt (j * 3) (by omega)]; exact tripC_get0 ys j hjl
      have q1 : wr.cell? ⟨g, j * 3 + 1, none⟩ = some (.int .i64 ys[j].line) := by rw [hown.cellAt (j * 3 + 1) (by omega)]; exact tripC_get1 ys j hjl
      have q2 : wr.cell? ⟨g, j * 3 + 2, none⟩ = some (.int .i64 ys[j].start) := by rw [hown.cellAt (j * 3 + 2) (by omega)]; exact tripC_get2 ys j hjl
      have hf := fun o => hown.frozenAt o
      have HOwn2 : Hid ((((wr.setCell ⟨g, j * 3, none⟩ (.int .i64 (k + 3 * (j : Int)))).setCell ⟨g, j * 3 + 1, none⟩ (.int .i64 (k + 3 * (j : Int) + 1))).setCell ⟨g, j * 3 + 2, none⟩ (.int .i64 (k + 3 * (j : Int) + 1 + 1))).ownsRow B 89 3 (.slice (some ⟨g, 0, none⟩) xs.length c) xs.length (tripC (ys.set j ⟨k + 3 * (j : Int), k + 3 * (j : Int) + 1, k + 3 * (j : Int) + 1 + 1⟩))) := by
        have := (((hown.stored (j * 3) (.int .i64 (k + 3 * (j : Int)))).1.stored (j * 3 + 1) (.int .i64 (k + 3 * (j : Int) + 1))).1.stored (j * 3 + 2) (.int .i64 (k + 3 * (j : Int) + 1 + 1))).1
        rw [tripC_set ys j ⟨k + 3 * (j : Int), k + 3 * (j : Int) + 1, k + 3 * (j : Int) + 1 + 1⟩ hjl] at this
        exact this
      have HT2 : Hid ((ys.set j ⟨k + 3 * (j : Int), k + 3 * (j : Int) + 1, k + 3 * (j : Int) + 1 + 1⟩).take (j + 1) = (upTrips k xs.length).take (j + 1)) := by
        have hl2 : j < (upTrips k xs.length).length := by rw [upTrips_len]; exact hlt
        have := take_set_succ ys (upTrips k xs.length) j hjl hl2 HT.out
        rw [upTrips_get] at this; exact this
      have hset : ∀ (W : World) (o : Nat) (u : Value), w.grownBy W (some g) → w.grownBy (W.setCell ⟨g, o, none⟩ u) (some g) := fun W o u h =>
        ⟨h.os, h.tape, h.output, by have := h.size; simp [World.setCell]; omega, fun q hq hne => by
          rw [Below.heap_setCell _ _ _ _ (fun e => hne (by rw [e]))]; exact h.block q hq hne⟩
      have HG2 : Hid (w.grownBy (((wr.setCell ⟨g, j * 3, none⟩ (.int .i64 (k + 3 * (j : Int)))).setCell ⟨g, j * 3 + 1, none⟩ (.int .i64 (k + 3 * (j : Int) + 1))).setCell ⟨g, j * 3 + 2, none⟩ (.int .i64 (k + 3 * (j : Int) + 1 + 1))) (some g)) := hset _ _ _ (hset _ _ _ (hset _ _ _ HG.out))
      clear HG hset
      clear hown hblk h4 h5 h6
      generalize ys[j] = old at *
      go_wp2
      go_roundw
      case rel => exact ⟨j + 1, by omega, by go_num, by go_num, ⟨_, by simpa using hys, HT2, HOwn2⟩, HG2⟩
      case measure => simp [RowKit.intOf]; omega
    · have hjl : j = xs.length := by omega
      subst hjl
      go_wp2
      go_ret
      refine ⟨rfl, ?_, HG.out⟩
      have := HT.out
      rw [List.take_of_length_le (by omega), List.take_of_length_le (by rw [upTrips_len]; omega)] at this
      rw [← this]; exact HOwn.out
end Go.Proofs.Ytehpeifaknbcnaa
