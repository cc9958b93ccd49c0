/-
  What spec.TripsRunning and impl.TripsRunning both return.
-/
import Derived.Test.YtocbgeneabmnmaaStopTimes
namespace Go.Proofs.Ytocbgeneabmnmaa
open Go.RowKit
set_option linter.unusedVariables false

/-- whether a trip is on its way -/
def runsB (t : TTD) (m : Int) (x : TripD) : Bool := decide (x.start ≤ m) && decide (m < arrF t.net x)
def runL (t : TTD) (m : Int) (k : Nat) : List Int := ((t.trips.take k).filter (runsB t m)).map (fun x => x.id)
theorem runL_yes {t : TTD} {m : Int} {k : Nat} (hk : k < t.trips.length) (h1 : (t.trips[k]).start ≤ m) (h2 : m < arrF t.net t.trips[k]) : runL t m (k + 1) = runL t m k ++ [(t.trips[k]).id] := by
  unfold runL; rw [List.take_succ_eq_append_getElem hk, List.filter_append, List.map_append]; simp [runsB, h1, h2]
theorem runL_no {t : TTD} {m : Int} {k : Nat} (hk : k < t.trips.length) (h : ¬ ((t.trips[k]).start ≤ m ∧ m < arrF t.net t.trips[k])) : runL t m (k + 1) = runL t m k := by
  unfold runL; rw [List.take_succ_eq_append_getElem hk, List.filter_append, List.map_append]
  have : runsB t m t.trips[k] = false := by
    unfold runsB
    rw [Bool.and_eq_false_iff]
    by_cases h1 : (t.trips[k]).start ≤ m
    · exact .inr (decide_eq_false fun h2 => h ⟨h1, h2⟩)
    · exact .inl (decide_eq_false h1)
  simp [this]
theorem runL_len (t : TTD) (m : Int) (k : Nat) : (runL t m k).length ≤ t.trips.length := by
  unfold runL; rw [List.length_map]
  exact Nat.le_trans (List.length_filter_le _ _) (by simp; omega)
noncomputable def rnF (t : TTD) (m : Int) : List Int × Bool := if TTGood t ∧ TimeOk m then (runL t m t.trips.length, true) else ([], false)

set_option maxRecDepth 100000 in
set_option maxHeartbeats 4000000 in
theorem specTripsRunning_any (v : Value) (t : TTD) (m : Int) (w : World) (hr : TTAt w v t) (hf : TTFits t) (hs : TTSmall t) :
    Calls Try.prog 32 #[v, .int .i64 m] w fun e w' => StAns w.heap.size (rnF t m).1 (rnF t m).2 e w' ∧ Below w.heap.size w w' := by
  have HTT := Lib.hid hr
  have HG := Lib.hid (fun W (hW : Below w.heap.size w W) => l5Good_any v t W (hr.below rfl hW) hf)
  have HTi := Lib.hid (fun W => l4Time_any m W)
  have hts := hs.2
  unfold TripsSmall at hts
  obtain ⟨a, c, a', c', b, d, rfl, hn, ht⟩ := tt_open hr
  have HNt := Lib.hid hn
  have HT := Lib.hid ht
  have HRow : Hid ((w.alloc (.cells #[.slice a t.net.stops.length c, .slice a' t.net.lines.length c', .slice b t.trips.length d] 30 (0, 0))).ownsRow (w.heap.size + 1) 3 1 (.slice none 0 0) 0 (ints [])) := World.ownsRow_nil _ _ _ _
  have HRow2 := Lib.hid (row_new (w.alloc (.cells #[.slice a t.net.stops.length c, .slice a' t.net.lines.length c', .slice b t.trips.length d] 30 (0, 0))) (w.heap.size + 1) (by simp))
  clear hr hf hs hn ht HRow
  simp only [World.size_alloc] at HRow2
  obtain ⟨i0, hi0, hz0, hz1, hz2⟩ := info_parts infoInt
  by_cases hg : TTGood t
  · rw [ttB_yes hg] at HG
    have HGo := Lib.hid hg
    clear hg
    by_cases htm : TimeOk m
    · rw [timeB_yes htm] at HTi
      rw [show rnF t m = (runL t m t.trips.length, true) from if_pos ⟨HGo.out, htm⟩]
      simp only
      clear htm
      go_enter Try.func32, Try.ntmps32
      go_wp2_with fail
      go_at_call 60
      refine (HG.out _ (((Below.refl _ _).alloc (Nat.le_refl _) _).alloc (by simp) _)).mono ?_
      rintro e w1 ⟨rfl, hb1⟩
      have HB1 : Hid (Below w.heap.size w w1 ∧ w.heap.size < w1.heap.size) := ⟨(((Below.refl _ _).alloc (Nat.le_refl _) _).alloc (by simp) _).trans (hb1.mono (by simp; omega)), by have := hb1.size; simp at this; omega⟩
      have p0 : w1.cell? ⟨w.heap.size, 0, none⟩ = some (.slice a t.net.stops.length c) := bkeep hb1 (by go_simp)
      have p1 : w1.cell? ⟨w.heap.size, 1, none⟩ = some (.slice a' t.net.lines.length c') := bkeep hb1 (by go_simp)
      have p2 : w1.cell? ⟨w.heap.size, 2, none⟩ = some (.slice b t.trips.length d) := bkeep hb1 (by go_simp)
      have HO1 := Lib.hid (own_later HRow2.out hb1)
      clear hb1 HRow2
      go_wp2_with fail
      go_at_call 77
      refine (HTi.out _).mono ?_
      rintro e w1 ⟨rfl, rfl⟩
      go_wp2_with fail
      go_loopw [6, 7] (fun o q wr => ∃ k : Nat, k ≤ t.trips.length ∧ q = .int .i64 k ∧ Hid (wr.ownsRow (w.heap.size + 1) 3 1 o (runL t m k).length (ints (runL t m k))) ∧
          wr.cell? ⟨w.heap.size, 0, none⟩ = some (.slice a t.net.stops.length c) ∧ wr.cell? ⟨w.heap.size, 1, none⟩ = some (.slice a' t.net.lines.length c') ∧ wr.cell? ⟨w.heap.size, 2, none⟩ = some (.slice b t.trips.length d) ∧ Hid (Below w.heap.size w wr ∧ w.heap.size < wr.heap.size))
        (fun _ q _ => t.trips.length - (RowKit.intOf q).toNat)
      case atStart => exact ⟨0, Nat.zero_le _, rfl, HO1.out, p0, p1, p2, HB1.out⟩
      case round =>
        clear p0 p1 p2 HB1 HO1
        obtain ⟨k, hk, rfl, HOwn, p0, p1, p2, HB⟩ := hrel
        obtain ⟨oa, oc, rfl⟩ := own_shape HOwn.out
        have hz := HB.out.2
        by_cases hlt : k < t.trips.length
        · obtain ⟨g, go, rfl, hgb, y0, y1, y2⟩ := trip_at (HT.out.below rfl HB.out.1) k hlt
          have hk1 : (k : Int) < (t.trips.length : Int) := by omega
          obtain ⟨n, hn, hnl, harr⟩ := HGo.out.line k hlt
          have hst := (HGo.out.step k hlt).2.2.1.2.1
          obtain ⟨hl1, hl2, hl3⟩ := line_facts HGo.out.1 n hnl
          have HE := Lib.hid (l5End_any _ t k w HTT.out hlt n hn hnl hl1 hl2 hl3 hst.1 hst.2)
          have hrl := runL_len t m k
          have HYes := Lib.hid (runL_yes (m := m) hlt)
          have HNo := Lib.hid (runL_no (m := m) hlt)
          rw [harr] at HYes HNo
          clear hn hst hl1 hl2 hl3 harr
          generalize t.net.lines[n].runs.sum = rs at *
          generalize t.trips[k] = x at *
          obtain ⟨xi, xl, xs⟩ := x
          simp only at *
          generalize xs + rs = ar at *
          by_cases h1 : xs ≤ m
          · go_wp2_with fail
            go_at_call 83
            refine (HE.out _ HB.out.1).mono ?_
            rintro e w2 ⟨rfl, hb2⟩
            have HB2 : Hid (Below w.heap.size w w2 ∧ w.heap.size < w2.heap.size) := ⟨HB.out.1.trans (hb2.mono (by omega)), by have := hb2.size; omega⟩
            have q0 : w2.cell? ⟨w.heap.size, 0, none⟩ = some (.slice a t.net.stops.length c) := bkeep hb2 p0
            have q1 : w2.cell? ⟨w.heap.size, 1, none⟩ = some (.slice a' t.net.lines.length c') := bkeep hb2 p1
            have q2 : w2.cell? ⟨w.heap.size, 2, none⟩ = some (.slice (some ⟨g, go, none⟩) t.trips.length d) := bkeep hb2 p2
            have z0 : w2.cell? ⟨g, go + k * 3, none⟩ = some (.int .i64 xi) := bkeep hb2 y0
            have HO2 := Lib.hid (own_later HOwn.out hb2)
            have hzb := HB2.out.2
            clear hb2 p0 p1 p2 HB HOwn y0 y1 y2
            by_cases h2 : m < ar
            · have HSucc := Lib.hid (HYes.out h1 h2)
              clear HYes HNo
              have hrl2 : (runL t m k).length ≤ 1048576 := by omega
              go_wp2_with (at_builtin; refine wpList_append_own _ rfl _ _ 40 rfl (w.heap.size + 1) 3 i0 (.int .i64 0) 1 8 Try.underlying40 hi0 hz0 hz1 hz2 rfl (by decide) _ _ _ rfl (HO2.out.alloc _) ⟨w2.heap.size, 0, none⟩ 1 1 [.int .i64 xi] rfl rfl ?c1 ?c2 ?c3 ?c4 ?c5 ?_)
              case c1 => exact one_new _ _
              case c2 => intro u hu; simp at hu; subst hu; rfl
              case c3 => unfold maxLen; omega
              case c4 => omega
              case c5 => simp; omega
              intro v' w3 hown' hgrow _
              have ho : Value.ownBlock (.slice oa (runL t m k).length oc) ≠ some w.heap.size := fun e => by have := (HO2.out.lt w.heap.size e).1; omega
              have z0' : w3.cell? ⟨w.heap.size, 0, none⟩ = some (.slice a t.net.stops.length c) := hgrow.cell (acell q0 _) (fun e => ho e.symm)
              have z1 : w3.cell? ⟨w.heap.size, 1, none⟩ = some (.slice a' t.net.lines.length c') := hgrow.cell (acell q1 _) (fun e => ho e.symm)
              have z2 : w3.cell? ⟨w.heap.size, 2, none⟩ = some (.slice (some ⟨g, go, none⟩) t.trips.length d) := hgrow.cell (acell q2 _) (fun e => ho e.symm)
              have HB3 : Hid (Below w.heap.size w w3 ∧ w.heap.size < w3.heap.size) := ⟨(HB2.out.1.alloc (by omega) _).grown hgrow (by simp; omega) (fun g hg => by have := (HO2.out.lt g hg).1; omega), by have := hgrow.size; simp at this; omega⟩
              have HR : Hid (w3.ownsRow (w.heap.size + 1) 3 1 v' (runL t m (k + 1)).length (ints (runL t m (k + 1)))) := by
                show w3.ownsRow _ _ _ _ _ _
                rw [HSucc.out]; simpa [ints] using hown'
              clear hown' hgrow q0 q1 q2 ho
              go_wp2_with fail
              go_roundw
              case rel => exact ⟨k + 1, by omega, by go_num, HR, z0', z1, z2, HB3⟩
              case measure => simp [RowKit.intOf]; omega
            · have HSucc := Lib.hid (HNo.out (fun h => h2 h.2))
              have HR : Hid (w2.ownsRow (w.heap.size + 1) 3 1 (.slice oa (runL t m k).length oc) (runL t m (k + 1)).length (ints (runL t m (k + 1)))) := by show World.ownsRow _ _ _ _ _ _ _; rw [HSucc.out]; exact HO2.out
              clear HYes HNo HO2
              go_wp2_with fail
              go_roundw
              case rel => exact ⟨k + 1, by omega, by go_num, HR, q0, q1, q2, HB2⟩
              case measure => simp [RowKit.intOf]; omega
          · have HSucc := Lib.hid (HNo.out (fun h => h1 h.1))
            have HR : Hid (wr.ownsRow (w.heap.size + 1) 3 1 (.slice oa (runL t m k).length oc) (runL t m (k + 1)).length (ints (runL t m (k + 1)))) := by show World.ownsRow _ _ _ _ _ _ _; rw [HSucc.out]; exact HOwn.out
            clear HYes HNo HOwn
            go_wp2_with fail
            go_roundw
            case rel => exact ⟨k + 1, by omega, by go_num, HR, p0, p1, p2, HB⟩
            case measure => simp [RowKit.intOf]; omega
        · obtain rfl : k = t.trips.length := by omega
          have hlt1 : ¬ (t.trips.length : Int) < (t.trips.length : Int) := by omega
          have hX := HOwn.out
          have hle : w.heap.size ≤ w.heap.size + 1 := by omega
          have HX := Lib.hid (own_base hX hle)
          clear hX
          go_wp2_with fail
          go_ret2
          exact ⟨⟨_, rfl, HX.out⟩, HB.out.1⟩
    · rw [timeB_no htm] at HTi
      rw [show rnF t m = ([], false) from if_neg fun h => htm h.2]
      clear htm
      go_enter Try.func32, Try.ntmps32
      go_wp2_with fail
      go_at_call 60
      refine (HG.out _ (((Below.refl _ _).alloc (Nat.le_refl _) _).alloc (by simp) _)).mono ?_
      rintro e w1 ⟨rfl, hb1⟩
      have HB1 : Hid (Below w.heap.size w w1) := (((Below.refl _ _).alloc (Nat.le_refl _) _).alloc (by simp) _).trans (hb1.mono (by simp; omega))
      have HO1 := Lib.hid (own_base (own_later HRow2.out hb1) (show w.heap.size ≤ w.heap.size + 1 by omega))
      clear hb1 HRow2
      go_wp2_with (go_at_call 77; refine (HTi.out _).mono ?_; rintro e w2 ⟨rfl, rfl⟩)
      go_ret2
      exact ⟨⟨_, rfl, HO1.out⟩, HB1.out⟩
  · rw [ttB_no hg] at HG
    rw [show rnF t m = ([], false) from if_neg fun h => hg h.1]
    clear hg
    go_enter Try.func32, Try.ntmps32
    go_wp2_with fail
    go_at_call 60
    refine (HG.out _ (((Below.refl _ _).alloc (Nat.le_refl _) _).alloc (by simp) _)).mono ?_
    rintro e w1 ⟨rfl, hb1⟩
    have HB1 : Hid (Below w.heap.size w w1) := (((Below.refl _ _).alloc (Nat.le_refl _) _).alloc (by simp) _).trans (hb1.mono (by simp; omega))
    have HO1 := Lib.hid (own_base (own_later HRow2.out hb1) (show w.heap.size ≤ w.heap.size + 1 by omega))
    clear hb1 HRow2
    go_wp2_with fail
    go_ret2
    exact ⟨⟨_, rfl, HO1.out⟩, HB1.out⟩
set_option maxRecDepth 100000 in
set_option maxHeartbeats 4000000 in
theorem implTripsRunning_any (v : Value) (t : TTD) (m : Int) (w : World) (hr : TTAt w v t) (hf : TTFits t) (hs : TTSmall t) :
    Calls Try.prog 31 #[v, .int .i64 m] w fun e w' => StAns w.heap.size (rnF t m).1 (rnF t m).2 e w' ∧ Below w.heap.size w w' := by
  have HTT := Lib.hid hr
  have HG := Lib.hid (fun W (hW : Below w.heap.size w W) => implTT_any v t W (hr.below rfl hW) hf)
  have HTi := Lib.hid (fun W => implValidTime_any m W)
  have hts := hs.2
  unfold TripsSmall at hts
  obtain ⟨a, c, a', c', b, d, rfl, hn, ht⟩ := tt_open hr
  have HNt := Lib.hid hn
  have HT := Lib.hid ht
  have HRow : Hid ((w.alloc (.cells #[.slice a t.net.stops.length c, .slice a' t.net.lines.length c', .slice b t.trips.length d] 30 (0, 0))).ownsRow (w.heap.size + 1) 3 1 (.slice none 0 0) 0 (ints [])) := World.ownsRow_nil _ _ _ _
  have HRow2 := Lib.hid (row_new (w.alloc (.cells #[.slice a t.net.stops.length c, .slice a' t.net.lines.length c', .slice b t.trips.length d] 30 (0, 0))) (w.heap.size + 1) (by simp))
  clear hr hf hs hn ht HRow
  simp only [World.size_alloc] at HRow2
  obtain ⟨i0, hi0, hz0, hz1, hz2⟩ := info_parts infoInt
  by_cases hg : TTGood t
  · rw [ttB_yes hg] at HG
    have HGo := Lib.hid hg
    clear hg
    by_cases htm : TimeOk m
    · rw [timeB_yes htm] at HTi
      rw [show rnF t m = (runL t m t.trips.length, true) from if_pos ⟨HGo.out, htm⟩]
      simp only
      clear htm
      go_enter Try.func31, Try.ntmps31
      go_wp2_with fail
      go_at_call 19
      refine (HG.out _ (((Below.refl _ _).alloc (Nat.le_refl _) _).alloc (by simp) _)).mono ?_
      rintro e w1 ⟨rfl, hb1⟩
      have HB1 : Hid (Below w.heap.size w w1 ∧ w.heap.size < w1.heap.size) := ⟨(((Below.refl _ _).alloc (Nat.le_refl _) _).alloc (by simp) _).trans (hb1.mono (by simp; omega)), by have := hb1.size; simp at this; omega⟩
      have p0 : w1.cell? ⟨w.heap.size, 0, none⟩ = some (.slice a t.net.stops.length c) := bkeep hb1 (by go_simp)
      have p1 : w1.cell? ⟨w.heap.size, 1, none⟩ = some (.slice a' t.net.lines.length c') := bkeep hb1 (by go_simp)
      have p2 : w1.cell? ⟨w.heap.size, 2, none⟩ = some (.slice b t.trips.length d) := bkeep hb1 (by go_simp)
      have HO1 := Lib.hid (own_later HRow2.out hb1)
      clear hb1 HRow2
      go_wp2_with fail
      go_at_call 72
      refine (HTi.out _).mono ?_
      rintro e w1 ⟨rfl, rfl⟩
      go_wp2_with fail
      go_loopw [6, 22] (fun o q wr => ∃ k : Nat, k ≤ t.trips.length ∧ q = .int .i64 k ∧ Hid (wr.ownsRow (w.heap.size + 1) 3 1 o (runL t m k).length (ints (runL t m k))) ∧
          wr.cell? ⟨w.heap.size, 0, none⟩ = some (.slice a t.net.stops.length c) ∧ wr.cell? ⟨w.heap.size, 1, none⟩ = some (.slice a' t.net.lines.length c') ∧ wr.cell? ⟨w.heap.size, 2, none⟩ = some (.slice b t.trips.length d) ∧ Hid (Below w.heap.size w wr ∧ w.heap.size < wr.heap.size))
        (fun _ q _ => t.trips.length - (RowKit.intOf q).toNat)
      case atStart => exact ⟨0, Nat.zero_le _, rfl, HO1.out, p0, p1, p2, HB1.out⟩
      case round =>
        clear p0 p1 p2 HB1 HO1
        obtain ⟨k, hk, rfl, HOwn, p0, p1, p2, HB⟩ := hrel
        obtain ⟨oa, oc, rfl⟩ := own_shape HOwn.out
        have hz := HB.out.2
        by_cases hlt : k < t.trips.length
        · obtain ⟨g, go, rfl, hgb, y0, y1, y2⟩ := trip_at (HT.out.below rfl HB.out.1) k hlt
          have hk1 : (k : Int) < (t.trips.length : Int) := by omega
          obtain ⟨n, hn, hnl, harr⟩ := HGo.out.line k hlt
          have hst := (HGo.out.step k hlt).2.2.1.2.1
          obtain ⟨hl1, hl2, hl3⟩ := line_facts HGo.out.1 n hnl
          have HE := Lib.hid (fun W (hW : Below w.heap.size w W) => arrivalOf_any _ t.net (t.trips[k]) W (HNt.out.below rfl hW) n hn hnl hl2 hl3 hst.1 hst.2)
          unfold tripV at HE
          have hrl := runL_len t m k
          have HYes := Lib.hid (runL_yes (m := m) hlt)
          have HNo := Lib.hid (runL_no (m := m) hlt)
          rw [harr] at HYes HNo
          clear hn hst hl1 hl2 hl3 harr
          generalize t.net.lines[n].runs.sum = rs at *
          generalize t.trips[k] = x at *
          obtain ⟨xi, xl, xs⟩ := x
          simp only at *
          generalize xs + rs = ar at *
          by_cases h1 : xs ≤ m
          · go_wp2_with fail
            go_at_call 82
            refine (HE.out _ (HB.out.1.alloc (by omega) _)).mono ?_
            rintro e w2 ⟨rfl, hb2⟩
            have HB2 : Hid (Below w.heap.size w w2 ∧ w.heap.size < w2.heap.size) := ⟨(HB.out.1.alloc (by omega) _).trans (hb2.mono (by simp; omega)), by have := hb2.size; simp at this; omega⟩
            have q0 : w2.cell? ⟨w.heap.size, 0, none⟩ = some (.slice a t.net.stops.length c) := bkeep hb2 (acell p0 _)
            have q1 : w2.cell? ⟨w.heap.size, 1, none⟩ = some (.slice a' t.net.lines.length c') := bkeep hb2 (acell p1 _)
            have q2 : w2.cell? ⟨w.heap.size, 2, none⟩ = some (.slice (some ⟨g, go, none⟩) t.trips.length d) := bkeep hb2 (acell p2 _)
            have z0 : w2.cell? ⟨g, go + k * 3, none⟩ = some (.int .i64 xi) := bkeep hb2 (acell y0 _)
            have x0 : w2.cell? ⟨wr.heap.size, 0, none⟩ = some (.int .i64 xi) := bkeep hb2 (by go_simp)
            have HO2 := Lib.hid (own_later (HOwn.out.alloc _) hb2)
            have hzb := HB2.out.2
            clear hb2 p0 p1 p2 HB HOwn y0 y1 y2
            by_cases h2 : m < ar
            · have HSucc := Lib.hid (HYes.out h1 h2)
              clear HYes HNo
              have hrl2 : (runL t m k).length ≤ 1048576 := by omega
              go_wp2_with (at_builtin; refine wpList_append_own _ rfl _ _ 40 rfl (w.heap.size + 1) 3 i0 (.int .i64 0) 1 8 Try.underlying40 hi0 hz0 hz1 hz2 rfl (by decide) _ _ _ rfl (HO2.out.alloc _) ⟨w2.heap.size, 0, none⟩ 1 1 [.int .i64 xi] rfl rfl ?c1 ?c2 ?c3 ?c4 ?c5 ?_)
              case c1 => exact one_new _ _
              case c2 => intro u hu; simp at hu; subst hu; rfl
              case c3 => unfold maxLen; omega
              case c4 => omega
              case c5 => simp; omega
              intro v' w3 hown' hgrow _
              have ho : Value.ownBlock (.slice oa (runL t m k).length oc) ≠ some w.heap.size := fun e => by have := (HO2.out.lt w.heap.size e).1; omega
              have z0' : w3.cell? ⟨w.heap.size, 0, none⟩ = some (.slice a t.net.stops.length c) := hgrow.cell (acell q0 _) (fun e => ho e.symm)
              have z1 : w3.cell? ⟨w.heap.size, 1, none⟩ = some (.slice a' t.net.lines.length c') := hgrow.cell (acell q1 _) (fun e => ho e.symm)
              have z2 : w3.cell? ⟨w.heap.size, 2, none⟩ = some (.slice (some ⟨g, go, none⟩) t.trips.length d) := hgrow.cell (acell q2 _) (fun e => ho e.symm)
              have HB3 : Hid (Below w.heap.size w w3 ∧ w.heap.size < w3.heap.size) := ⟨(HB2.out.1.alloc (by omega) _).grown hgrow (by simp; omega) (fun g hg => by have := (HO2.out.lt g hg).1; omega), by have := hgrow.size; simp at this; omega⟩
              have HR : Hid (w3.ownsRow (w.heap.size + 1) 3 1 v' (runL t m (k + 1)).length (ints (runL t m (k + 1)))) := by
                show w3.ownsRow _ _ _ _ _ _
                rw [HSucc.out]; simpa [ints] using hown'
              clear hown' hgrow q0 q1 q2 ho
              go_wp2_with fail
              go_roundw
              case rel => exact ⟨k + 1, by omega, by go_num, HR, z0', z1, z2, HB3⟩
              case measure => simp [RowKit.intOf]; omega
            · have HSucc := Lib.hid (HNo.out (fun h => h2 h.2))
              have HR : Hid (w2.ownsRow (w.heap.size + 1) 3 1 (.slice oa (runL t m k).length oc) (runL t m (k + 1)).length (ints (runL t m (k + 1)))) := by show World.ownsRow _ _ _ _ _ _ _; rw [HSucc.out]; exact HO2.out
              clear HYes HNo HO2
              go_wp2_with fail
              go_roundw
              case rel => exact ⟨k + 1, by omega, by go_num, HR, q0, q1, q2, HB2⟩
              case measure => simp [RowKit.intOf]; omega
          · have HSucc := Lib.hid (HNo.out (fun h => h1 h.1))
            have HR : Hid (wr.ownsRow (w.heap.size + 1) 3 1 (.slice oa (runL t m k).length oc) (runL t m (k + 1)).length (ints (runL t m (k + 1)))) := by show World.ownsRow _ _ _ _ _ _ _; rw [HSucc.out]; exact HOwn.out
            clear HYes HNo HOwn
            have HB3 : Hid (∀ o, Below w.heap.size w (wr.alloc o) ∧ w.heap.size < (wr.alloc o).heap.size) := fun o => ⟨HB.out.1.alloc (by omega) _, by simp; omega⟩
            go_wp2_with fail
            go_roundw
            case rel => exact ⟨k + 1, by omega, by go_num, HR.out.alloc _, acell p0 _, acell p1 _, acell p2 _, HB3.out _⟩
            case measure => simp [RowKit.intOf]; omega
        · obtain rfl : k = t.trips.length := by omega
          have hlt1 : ¬ (t.trips.length : Int) < (t.trips.length : Int) := by omega
          have hX := HOwn.out
          have hle : w.heap.size ≤ w.heap.size + 1 := by omega
          have HX := Lib.hid (own_base hX hle)
          clear hX
          go_wp2_with fail
          go_ret2
          exact ⟨⟨_, rfl, HX.out⟩, HB.out.1⟩
    · rw [timeB_no htm] at HTi
      rw [show rnF t m = ([], false) from if_neg fun h => htm h.2]
      clear htm
      go_enter Try.func31, Try.ntmps31
      go_wp2_with fail
      go_at_call 19
      refine (HG.out _ (((Below.refl _ _).alloc (Nat.le_refl _) _).alloc (by simp) _)).mono ?_
      rintro e w1 ⟨rfl, hb1⟩
      have HB1 : Hid (Below w.heap.size w w1) := (((Below.refl _ _).alloc (Nat.le_refl _) _).alloc (by simp) _).trans (hb1.mono (by simp; omega))
      have HO1 := Lib.hid (own_base (own_later HRow2.out hb1) (show w.heap.size ≤ w.heap.size + 1 by omega))
      clear hb1 HRow2
      go_wp2_with (go_at_call 72; refine (HTi.out _).mono ?_; rintro e w2 ⟨rfl, rfl⟩)
      go_ret2
      exact ⟨⟨_, rfl, HO1.out⟩, HB1.out⟩
  · rw [ttB_no hg] at HG
    rw [show rnF t m = ([], false) from if_neg fun h => hg h.1]
    clear hg
    go_enter Try.func31, Try.ntmps31
    go_wp2_with fail
    go_at_call 19
    refine (HG.out _ (((Below.refl _ _).alloc (Nat.le_refl _) _).alloc (by simp) _)).mono ?_
    rintro e w1 ⟨rfl, hb1⟩
    have HB1 : Hid (Below w.heap.size w w1) := (((Below.refl _ _).alloc (Nat.le_refl _) _).alloc (by simp) _).trans (hb1.mono (by simp; omega))
    have HO1 := Lib.hid (own_base (own_later HRow2.out hb1) (show w.heap.size ≤ w.heap.size + 1 by omega))
    clear hb1 HRow2
    go_wp2_with fail
    go_ret2
    exact ⟨⟨_, rfl, HO1.out⟩, HB1.out⟩
theorem rnF_small (t : TTD) (m : Int) (hs : TTSmall t) : IntsSmall (rnF t m).1 := by
  unfold rnF
  have h1 := runL_len t m t.trips.length
  have h2 := hs.2
  unfold TripsSmall at h2
  split
  · simp only [IntsSmall]; omega
  · simp [IntsSmall]
theorem bothTripsRunning (t : TTD) (hf : TTFits t) (hs : TTSmall t) (m : Int) (w1 : (Lit.int .i64 m).wf = true) : ∃ (r : List Int) (b : Bool), IntsSmall r ∧ ∀ v w, TTAt w v t →
    Calls Try.prog 32 #[v, .int .i64 m] w (fun e w' => ∃ v', e = .returned (.tuple #[v', .bool b]) ∧ IntsIn w.heap.size w'.heap.size w' v' r ∧ Below w.heap.size w w') ∧
    Calls Try.prog 31 #[v, .int .i64 m] w (fun e w' => ∃ v', e = .returned (.tuple #[v', .bool b]) ∧ IntsIn w.heap.size w'.heap.size w' v' r ∧ Below w.heap.size w w') :=
  ⟨_, _, rnF_small t m hs, fun v w h => ⟨(specTripsRunning_any v t m w h hf hs).mono fun _ _ => st_in, (implTripsRunning_any v t m w h hf hs).mono fun _ _ => st_in⟩⟩
end Go.Proofs.Ytocbgeneabmnmaa
