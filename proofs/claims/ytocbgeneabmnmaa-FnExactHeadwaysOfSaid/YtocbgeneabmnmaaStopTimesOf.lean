/-
  CONTRACTS of spec.l5Times and impl.stopTimesOf: the stop times of a trip, in new memory.
-/
import Derived.Test.YtocbgeneabmnmaaMb
import Derived.Laws.IdiomStrings
namespace Go.Proofs.Ytocbgeneabmnmaa
open Go.RowKit
set_option linter.unusedVariables false

/-- the first k stop times -/
def tk (s : Int) (rs : List Int) (k : Nat) : List Int := (List.range k).map (fun p => s + (rs.take p).sum)
theorem tk_len (s : Int) (rs : List Int) (k : Nat) : (tk s rs k).length = k := by simp [tk]
theorem tk_succ (s : Int) (rs : List Int) (k : Nat) : tk s rs (k + 1) = tk s rs k ++ [s + (rs.take k).sum] := by simp [tk, List.range_succ]
theorem tk_get (s : Int) (rs : List Int) (k p : Nat) (h : p < k) : (tk s rs k)[p]? = some (s + (rs.take p).sum) := by simp [tk, h]
theorem runSum_zero (l : LineD) (p : Nat) : runSum l 0 p = (l.runs.take p).sum := by simp [runSum]

set_option maxRecDepth 100000 in
set_option maxHeartbeats 2000000 in
theorem l5Times_any (v : Value) (t : TTD) (i : Nat) (w : World) (hr : TTAt w v t) (hi : i < t.trips.length) (k : Nat) (hk : t.trips[i].line = k) (hkl : k < t.net.lines.length)
    (hlr : t.net.lines[k].runs.length + 1 = t.net.lines[k].stops.length) (hl : t.net.lines[k].runs.length ≤ 6) (hb : ∀ r ∈ t.net.lines[k].runs, 1 ≤ r ∧ r ≤ 60) (hs0 : 0 ≤ t.trips[i].start) (hs1 : t.trips[i].start ≤ 1799) :
    ∀ W : World, Below w.heap.size w W → Calls Try.prog 90 #[v, .int .i64 i] W fun e w' => (∃ v', e = .returned v' ∧ w'.ownsRow W.heap.size 3 1 v' (t.net.lines[k].runs.length + 1) (ints (tk t.trips[i].start t.net.lines[k].runs (t.net.lines[k].runs.length + 1)))) ∧ Below W.heap.size W w' := by
  obtain ⟨s0, s1, hrs, hS⟩ := l5Stops_any v t i w hr hi k hk hkl
  have HS := Lib.hid hS
  have HA := Lib.hid (fun p hp => l5At_any v t i w hr hi k hk hkl hl hb hs0 hs1 p hp)
  simp only [runSum_zero] at HA
  obtain ⟨a, c, a', c', b, d, rfl, -, -⟩ := tt_open hr
  intro W hW
  have HW := Lib.hid hW
  clear hrs hr hk hW hS hb
  generalize t.net.lines[k] = l at *
  generalize t.trips[i].start = st at *
  have HLR := Lib.hid hlr
  clear hlr
  obtain ⟨i0, hi0, hz0, hz1, hz2⟩ := info_parts infoInt
  go_enter Try.func90, Try.ntmps90
  go_wp2_with fail
  go_loopw [5, 6] (fun o q wr => ∃ p : Nat, p ≤ l.runs.length + 1 ∧ q = .int .i64 p ∧ Hid (wr.ownsRow (W.heap.size + 1) 3 1 o p (ints (tk st l.runs p))) ∧
      wr.cell? ⟨W.heap.size, 0, none⟩ = some (.slice a t.net.stops.length c) ∧ wr.cell? ⟨W.heap.size, 1, none⟩ = some (.slice a' t.net.lines.length c') ∧ wr.cell? ⟨W.heap.size, 2, none⟩ = some (.slice b t.trips.length d) ∧ Hid (Below W.heap.size W wr ∧ W.heap.size < wr.heap.size))
    (fun _ q _ => l.runs.length + 1 - (RowKit.intOf q).toNat)
  case atStart =>
    refine ⟨0, Nat.zero_le _, rfl, ?_, by go_simp, by go_simp, by go_simp, ⟨((Below.refl _ _).alloc (Nat.le_refl _) _).alloc (by simp) _, by simp <;> omega⟩⟩
    have h := World.ownsRow_lit (base := W.heap.size + 1) (e := 3) (size := 1) (W.alloc (.cells #[.slice a t.net.stops.length c, .slice a' t.net.lines.length c', .slice b t.trips.length d] 30 (0, 0))) #[] 0 (by simp) (by decide) (by simp)
    show World.ownsRow _ _ _ _ _ _ _
    simpa [ints, tk] using h
  case round =>
    obtain ⟨p, hp, rfl, HOwn, p0, p1, p2, HB⟩ := hrel
    obtain ⟨oa, oc, rfl⟩ := own_shape HOwn.out
    go_wp2_with fail
    go_at_call 80
    refine (HS.out _ (HW.out.trans (HB.out.1.mono HW.out.size))).mono ?_
    rintro e w1 ⟨rfl, hb1⟩
    have HO1 := Lib.hid (own_later HOwn.out hb1)
    have HB1 : Hid (Below W.heap.size W w1 ∧ W.heap.size < w1.heap.size) := ⟨HB.out.1.trans (hb1.mono (by have := HB.out.2; omega)), by have := HB.out.2; have := hb1.size; omega⟩
    have q0 := bkeep hb1 p0
    have q1 := bkeep hb1 p1
    have q2 := bkeep hb1 p2
    clear hb1 p0 p1 p2 HB HOwn
    by_cases hlt : p < l.runs.length + 1
    · have hlt1 : (p : Int) < (l.stops.length : Int) := by have := HLR.out; omega
      have HAp := Lib.hid (HA.out p (by omega))
      go_wp2_with fail
      go_at_call 81
      refine (HAp.out _ (HW.out.trans (HB1.out.1.mono HW.out.size))).mono ?_
      rintro e w2 ⟨rfl, hb2⟩
      have HO2 := Lib.hid (own_later HO1.out hb2)
      have HB2 : Hid (Below W.heap.size W w2 ∧ W.heap.size < w2.heap.size) := ⟨HB1.out.1.trans (hb2.mono (by have := HB1.out.2; omega)), by have := HB1.out.2; have := hb2.size; omega⟩
      have x0 := bkeep hb2 q0
      have x1 := bkeep hb2 q1
      have x2 := bkeep hb2 q2
      have HSucc := Lib.hid (tk_succ st l.runs p)
      have hz := HB2.out.2
      clear hb2 q0 q1 q2 HB1 HO1 HAp
      generalize st + (l.runs.take p).sum = y at *
      go_wp2_with (at_builtin; refine wpList_append_own _ rfl _ _ 40 rfl (W.heap.size + 1) 3 i0 (.int .i64 0) 1 8 Try.underlying40 hi0 hz0 hz1 hz2 rfl (by decide) _ _ _ rfl (HO2.out.alloc _) ⟨w2.heap.size, 0, none⟩ 1 1 [.int .i64 y] rfl rfl ?c1 ?c2 ?c3 ?c4 ?c5 ?_)
      case c1 => exact one_new _ _
      case c2 => intro u hu; simp at hu; subst hu; rfl
      case c3 => unfold maxLen; omega
      case c4 => omega
      case c5 => simp; omega
      intro v' w3 hown' hgrow _
      have ho : Value.ownBlock (.slice oa p oc) ≠ some W.heap.size := fun e => by have := (HO2.out.lt W.heap.size e).1; omega
      have z0 : w3.cell? ⟨W.heap.size, 0, none⟩ = some (.slice a t.net.stops.length c) := hgrow.cell (acell x0 _) (fun e => ho e.symm)
      have z1 : w3.cell? ⟨W.heap.size, 1, none⟩ = some (.slice a' t.net.lines.length c') := hgrow.cell (acell x1 _) (fun e => ho e.symm)
      have z2 : w3.cell? ⟨W.heap.size, 2, none⟩ = some (.slice b t.trips.length d) := hgrow.cell (acell x2 _) (fun e => ho e.symm)
      have HB3 : Hid (Below W.heap.size W w3 ∧ W.heap.size < w3.heap.size) := ⟨(HB2.out.1.alloc (by omega) _).grown hgrow (by simp; omega) (fun g hg => by have := (HO2.out.lt g hg).1; omega), by have := hgrow.size; simp at this; omega⟩
      have HR : Hid (w3.ownsRow (W.heap.size + 1) 3 1 v' (p + 1) (ints (tk st l.runs (p + 1)))) := by
        show w3.ownsRow _ _ _ _ _ _
        rw [HSucc.out]; simpa [ints] using hown'
      clear hown' hgrow x0 x1 x2 ho
      go_wp2_with fail
      go_roundw
      case rel => exact ⟨p + 1, by omega, by go_num, HR, z0, z1, z2, HB3⟩
      case measure => simp [RowKit.intOf]; omega
    · have hlt1 : ¬ (p : Int) < (l.stops.length : Int) := by have := HLR.out; omega
      obtain rfl : p = l.runs.length + 1 := by omega
      go_wp2_with fail
      go_ret
      have hX := HO1.out
      have hle : W.heap.size ≤ W.heap.size + 1 := by omega
      exact ⟨⟨.slice oa (l.runs.length + 1) oc, rfl, own_base hX hle⟩, HB1.out.1⟩

set_option maxRecDepth 100000 in
set_option maxHeartbeats 2000000 in
theorem stopTimesOf_any (v : Value) (n : NetD) (x : TripD) (w : World) (hr : NetAt w v n) (k : Nat) (hk : x.line = k) (hkl : k < n.lines.length)
    (hl : n.lines[k].runs.length ≤ 6) (hb : ∀ r ∈ n.lines[k].runs, 1 ≤ r ∧ r ≤ 60) (hs0 : 0 ≤ x.start) (hs1 : x.start ≤ 1799) :
    Calls Try.prog 66 #[v, tripV x] w fun e w' => (∃ v', e = .returned v' ∧ w'.ownsRow w.heap.size 3 1 v' (n.lines[k].runs.length + 1) (ints (tk x.start n.lines[k].runs (n.lines[k].runs.length + 1)))) ∧ Below w.heap.size w w' := by
  obtain ⟨a, c, a', c', rfl, -, -⟩ := net_open hr
  obtain ⟨lb, lo, s0, s1, r0, r1, rfl, hlb, x0, x1, x2, hrs, hrr⟩ := net_line hr k hkl
  obtain ⟨_, _, he, hc', hm', HC⟩ := ints_open hrr
  simp at he
  obtain ⟨rfl, rfl⟩ := he
  have hk1 : (k : Int) < (n.lines.length : Int) := by omega
  have HBd := Lib.hid hb
  clear hr hrs hrr hb
  obtain ⟨xi, xl, xs⟩ := x
  simp only at hk hs0 hs1
  subst hk
  unfold tripV
  simp only
  generalize n.lines[k] = l at *
  obtain ⟨i0, hi0, hz0, hz1, hz2⟩ := info_parts infoInt
  have hlb1 : lb < w.heap.size + 1 := by omega
  have hlb2 : lb < w.heap.size + 1 + 1 := by omega
  go_enter Try.func66, Try.ntmps66
  go_wp2_with fail
  go_loopw [5, 19] (fun o q wr => ∃ p : Nat, p ≤ l.runs.length ∧ q = .int .i64 p ∧ Hid (wr.ownsRow (w.heap.size + 1 + 1) 3 1 o (p + 1) (ints (tk xs l.runs (p + 1)))) ∧ Hid (Below w.heap.size w wr ∧ w.heap.size + 2 ≤ wr.heap.size))
    (fun _ q _ => l.runs.length - (RowKit.intOf q).toNat)
  case atStart =>
    refine ⟨0, Nat.zero_le _, rfl, ?_, ⟨(((Below.refl _ _).alloc (Nat.le_refl _) _).alloc (by simp) _).alloc (by simp <;> omega) _, by simp <;> omega⟩⟩
    have h := World.ownsRow_lit (base := w.heap.size + 1 + 1) (e := 3) (size := 1) ((w.alloc (.cells #[.slice a n.stops.length c, .slice (some ⟨lb, lo, none⟩) n.lines.length c'] 27 (0, 0))).alloc (.cells #[.int .i64 xi, .int .i64 (k : Int), .int .i64 xs] 32 (0, 0))) #[.int .i64 xs] 1 (by simp) (by decide) (by simp)
    show World.ownsRow _ _ _ _ _ _ _
    simpa [ints, tk] using h
  case round =>
    obtain ⟨p, hp, rfl, HOwn, HB⟩ := hrel
    obtain ⟨oa, oc, rfl⟩ := own_shape HOwn.out
    by_cases hlt : p < l.runs.length
    · obtain ⟨rb, ro, rfl, hrb, y0⟩ := HC.out p hlt
      have z0 := HB.out.1.cell (p := ⟨rb, ro + p, none⟩) hrb
      rw [y0] at z0
      have hrow := rowAt_own HOwn.out
      obtain ⟨oa', oc', he, _, _, hcell⟩ := hrow
      simp only [ints_len, tk_len, Value.slice.injEq, true_and] at he
      obtain ⟨rfl, rfl⟩ := he
      obtain ⟨g, go, rfl, hg, y1⟩ := hcell p (.int .i64 (xs + (l.runs.take p).sum)) (by simp [ints, tk_get])
      have hbd := sum_bound (l.runs.take p) (fun x hx => HBd.out x (List.mem_of_mem_take hx))
      have hlen : (l.runs.take p).length ≤ 6 := by simp; omega
      have hx := HBd.out _ (List.getElem_mem hlt)
      have HS := Lib.hid (sum_take_succ l.runs p hlt)
      have HSucc := Lib.hid (tk_succ xs l.runs (p + 1))
      generalize (l.runs.take p).sum = s at *
      generalize l.runs[p] = y at *
      have hs2 : 0 ≤ s ∧ s ≤ 360 := by omega
      obtain ⟨hs2, hs3⟩ := hs2
      obtain ⟨hy0, hy1⟩ := hx
      have hw : IntKind.i64.wrap (xs + s + y) = xs + s + y := IntWalk.i64_in _ (by omega)
      have hp1 : (p : Int) < ((p + 1 : Nat) : Int) := by omega
      have hp2 : (p : Int) < (p : Int) + 1 := by omega
      have hp3 : (p : Int) < (l.runs.length : Int) := by omega
      have HZ := HB.out.2
      clear hbd hlen hcell y0
      go_wp2_with (at_builtin; refine wpList_append_own _ rfl _ _ 40 rfl (w.heap.size + 1 + 1) 3 i0 (.int .i64 0) 1 8 Try.underlying40 hi0 hz0 hz1 hz2 rfl (by decide) _ _ _ rfl (HOwn.out.alloc _) ⟨wr.heap.size, 0, none⟩ 1 1 [.int .i64 (xs + s + y)] rfl rfl ?c1 ?c2 ?c3 ?c4 ?c5 ?_)
      case c1 => exact one_new _ _
      case c2 => intro u hu; simp at hu; subst hu; rfl
      case c3 => unfold maxLen; omega
      case c4 => omega
      case c5 => simp; omega
      intro v' w3 hown' hgrow _
      have HB3 : Hid (Below w.heap.size w w3 ∧ w.heap.size + 2 ≤ w3.heap.size) := ⟨(HB.out.1.alloc (by omega) _).grown hgrow (by simp; omega) (fun g hg => by have := (HOwn.out.lt g hg).1; omega), by have := hgrow.size; simp at this; omega⟩
      have HR : Hid (w3.ownsRow (w.heap.size + 1 + 1) 3 1 v' (p + 1 + 1) (ints (tk xs l.runs (p + 1 + 1)))) := by
        show w3.ownsRow _ _ _ _ _ _
        rw [HSucc.out, HS.out, ← Int.add_assoc]; simpa [ints] using hown'
      clear hown' hgrow
      go_wp2_with fail
      go_roundw
      case rel => exact ⟨p + 1, by omega, by go_num, HR, HB3⟩
      case measure => simp [RowKit.intOf]; omega
    · have hlt1 : ¬ (p : Int) < (l.runs.length : Int) := by omega
      obtain rfl : p = l.runs.length := by omega
      go_wp2_with fail
      go_ret
      have hX := HOwn.out
      have hle : w.heap.size ≤ w.heap.size + 1 + 1 := by omega
      exact ⟨⟨.slice oa (l.runs.length + 1) oc, rfl, own_base hX hle⟩, HB.out.1⟩
end Go.Proofs.Ytocbgeneabmnmaa
