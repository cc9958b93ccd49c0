/-
  What spec.RunTime and impl.RunTime both return.
-/
import Derived.Test.YticmghmidnboaaaStopNumber
namespace Go.Proofs.Yticmghmidnboaaa
open Go.RowKit
set_option linter.unusedVariables false

/-- the minutes from one place of a line to a later one -/
def runSum (l : LineD) (a b : Nat) : Int := ((l.runs.drop a).take (b - a)).sum
theorem sum_bound : ∀ (xs : List Int), (∀ x ∈ xs, 1 ≤ x ∧ x ≤ 60) → 0 ≤ xs.sum ∧ xs.sum ≤ 60 * xs.length
  | [], _ => by simp
  | x :: xs, h => by
    have h1 := h x (by simp)
    have h2 := sum_bound xs (fun y hy => h y (by simp [hy]))
    simp only [List.sum_cons, List.length_cons]
    omega
theorem sum_take_succ (xs : List Int) (k : Nat) (h : k < xs.length) : (xs.take (k + 1)).sum = (xs.take k).sum + xs[k] := by
  rw [List.take_succ_eq_append_getElem h, List.sum_append, List.sum_cons, List.sum_nil]; omega
theorem good_line {n : NetD} (hg : NetGood n) (i : Nat) (hi : i < n.lines.length) : LineGood n.lines[i] n.stops.length := hg.2.2.2.1 _ (List.getElem_mem hi)

/-- a part of a row of numbers -/
theorem row_part {w : World} {a : Option Addr} {xs : List Int} {c lo hi : Nat} (h : RowAt w (.slice a xs.length c) (ints xs)) (h1 : lo < hi) (h2 : hi ≤ xs.length) :
    ∃ b off, a = some ⟨b, off, none⟩ ∧ RowAt w (.slice (some ⟨b, off + lo, none⟩) (hi - lo) (c - lo)) (ints ((xs.drop lo).take (hi - lo))) := by
  obtain ⟨a', c', hv, hc, hm, hcell⟩ := h
  simp at hv
  obtain ⟨rfl, _, rfl⟩ := hv
  rw [ints_len] at hc
  obtain ⟨b, off, ha, hb, _⟩ := hcell lo _ (by rw [List.getElem?_eq_getElem (by rw [ints_len]; omega)])
  refine ⟨b, off, ha, some ⟨b, off + lo, none⟩, c - lo, ?_, ?_, by omega, fun k u hu => ⟨b, off + lo, rfl, hb, ?_⟩⟩
  · rw [ints_len]; simp; omega
  · rw [ints_len]; simp; omega
  · have hk : k < hi - lo := by
      have := (List.getElem?_eq_some_iff.1 hu).1; rw [ints_len] at this; simp at this; omega
    have hu' : (ints xs)[lo + k]? = some u := by
      rw [ints, List.getElem?_map] at hu ⊢
      rw [List.getElem?_take, if_pos hk, List.getElem?_drop] at hu
      exact hu
    obtain ⟨b', off', ha', _, hx⟩ := hcell (lo + k) u hu'
    rw [ha] at ha'
    simp at ha'
    obtain ⟨rfl, rfl⟩ := ha'
    rw [Nat.add_assoc]; exact hx

theorem l2Stop_any (v : Value) (n : NetD) (stop : Int) (w : World) (hr : NetAt w v n) (hf : NetFits n) (hs : NetSmall n) :
    Calls Try.prog 91 #[v, .int .i64 stop] w fun e w' => (((NetGood n ∧ 0 ≤ stop ∧ stop < n.stops.length) ∧ e = .returned (.bool true)) ∨ (¬ (NetGood n ∧ 0 ≤ stop ∧ stop < n.stops.length) ∧ e = .returned (.bool false))) ∧ Below w.heap.size w w' := by
  have HG := Lib.hid (fun W (h : Below w.heap.size w W) => l2Good_any v n W (hr.below rfl h) hf)
  have hsz := hs.1
  obtain ⟨a, c, a', c', rfl, hss, hll⟩ := net_open hr
  clear hss hll hr hs hf
  by_cases hg : NetGood n
  · rw [netB_yes hg] at HG
    have HGo := Lib.hid hg
    have hpos := hg.1.1
    clear hg
    by_cases hin : 0 ≤ stop ∧ stop ≤ (n.stops.length : Int) - 1
    · have HIn := Lib.hid hin
      clear hin
      go_enter Try.func91, Try.ntmps91
      go_wp2_with fail
      go_at_call 74
      refine (HG.out _ ((Below.refl _ _).alloc (Nat.le_refl _) _)).mono ?_
      rintro e w1 ⟨rfl, hb1⟩
      have HB1 : Hid (Below w.heap.size w w1) := ((Below.refl _ _).alloc (Nat.le_refl _) _).trans (hb1.mono (by simp))
      have p0 : w1.cell? ⟨w.heap.size, 0, none⟩ = some (.slice a n.stops.length c) := bkeep hb1 (by go_simp)
      clear hb1
      go_wp2_with (go_at_call 75; refine (l1In_yes _ _ _ _ HIn.out).mono ?_; rintro e w' ⟨rfl, rfl⟩)
      go_ret
      exact ⟨.inl ⟨⟨HGo.out, HIn.out.1, by have := HIn.out.2; omega⟩, rfl⟩, HB1.out⟩
    · have HIn := Lib.hid hin
      clear hin
      go_enter Try.func91, Try.ntmps91
      go_wp2_with fail
      go_at_call 74
      refine (HG.out _ ((Below.refl _ _).alloc (Nat.le_refl _) _)).mono ?_
      rintro e w1 ⟨rfl, hb1⟩
      have HB1 : Hid (Below w.heap.size w w1) := ((Below.refl _ _).alloc (Nat.le_refl _) _).trans (hb1.mono (by simp))
      have p0 : w1.cell? ⟨w.heap.size, 0, none⟩ = some (.slice a n.stops.length c) := bkeep hb1 (by go_simp)
      clear hb1
      go_wp2_with (go_at_call 75; refine (l1In_no _ _ _ _ HIn.out).mono ?_; rintro e w' ⟨rfl, rfl⟩)
      go_ret
      exact ⟨.inr ⟨fun h => HIn.out (by have := h.2; omega), rfl⟩, HB1.out⟩
  · rw [netB_no hg] at HG
    have HGo := Lib.hid hg
    clear hg
    go_enter Try.func91, Try.ntmps91
    go_wp2_with fail
    go_at_call 74
    refine (HG.out _ ((Below.refl _ _).alloc (Nat.le_refl _) _)).mono ?_
    rintro e w1 ⟨rfl, hb1⟩
    go_wp2_with fail
    go_ret
    exact ⟨.inr ⟨fun h => HGo.out h.1, rfl⟩, ((Below.refl _ _).alloc (Nat.le_refl _) _).trans (hb1.mono (by simp))⟩

set_option maxHeartbeats 1000000 in
theorem l2Run_any (v : Value) (l : LineD) (i j : Nat) (w : World) (hr : LineV w v l) (hij : i < j) (hj : j ≤ l.runs.length) (hl : l.runs.length ≤ 6) (hb : ∀ r ∈ l.runs, 1 ≤ r ∧ r ≤ 60) :
    Calls Try.prog 105 #[v, .int .i64 i, .int .i64 j] w fun e w' => e = .returned (.int .i64 (runSum l i j)) ∧ Below w.heap.size w w' := by
  obtain ⟨sv, rv, rfl, hs, hrr⟩ := hr
  obtain ⟨a, c, rfl, _⟩ := ints_open hs
  obtain ⟨a', c', rfl, hc', hm', HC⟩ := ints_open hrr
  have HBd := Lib.hid hb
  clear hs hrr hb
  go_enter Try.func105, Try.ntmps105
  go_wp2_with fail
  go_loop [7, 8] (fun s q => ∃ k : Nat, k ≤ j - i ∧ q = .int .i64 ((i + k : Nat) : Int) ∧ s = .int .i64 ((l.runs.drop i).take k).sum) (fun _ q => j - (RowKit.intOf q).toNat)
  case atStart => exact ⟨0, Nat.zero_le _, rfl, by simp⟩
  case round =>
    obtain ⟨k, hk, rfl, rfl⟩ := hrel
    have hbd := sum_bound ((l.runs.drop i).take k) (fun x hx => HBd.out x (List.mem_of_mem_drop (List.mem_of_mem_take hx)))
    have hlen : ((l.runs.drop i).take k).length ≤ 6 := by simp; omega
    by_cases hlt : k < j - i
    · obtain ⟨b, off, rfl, hbl, hcx⟩ := HC.out (i + k) (by omega)
      have hx := HBd.out _ (List.getElem_mem (show i + k < l.runs.length by omega))
      have HS : Hid (((l.runs.drop i).take (k + 1)).sum = ((l.runs.drop i).take k).sum + l.runs[i + k]'(by omega)) := by
        show _ = _
        rw [sum_take_succ _ _ (by simp; omega)]; simp
      generalize ((l.runs.drop i).take k).sum = s0 at *
      generalize l.runs[i + k] = x at *
      have hb1 : 0 ≤ s0 ∧ s0 ≤ 360 := by omega
      obtain ⟨hb1, hb2⟩ := hb1
      obtain ⟨hx1, hx2⟩ := hx
      have h3 : ((i + k : Nat) : Int) < (j : Int) := by omega
      clear hbd hlen
      go_wp2_with fail
      go_round
      case rel => exact ⟨k + 1, by omega, by go_num, by rw [HS.out]⟩
      case measure => simp [RowKit.intOf]; omega
    · have he : k = j - i := by omega
      subst he
      have h3 : ¬ ((i + (j - i) : Nat) : Int) < (j : Int) := by omega
      go_wp2_with fail
      go_ret
      exact ⟨rfl, (Below.refl _ _).alloc (Nat.le_refl _) _⟩

set_option maxHeartbeats 1000000 in
theorem sumOf_any (v : Value) (xs : List Int) (w : World) (hr : RowAt w v (ints xs)) (hl : xs.length ≤ 6) (hb : ∀ r ∈ xs, 1 ≤ r ∧ r ≤ 60) :
    Calls Try.prog 82 #[v] w fun e w' => e = .returned (.int .i64 xs.sum) ∧ w = w' := by
  obtain ⟨a, c, rfl, hc, hm, HC⟩ := ints_open hr
  have HBd := Lib.hid hb
  clear hr hb
  go_enter Try.func82, Try.ntmps82
  go_wp2_with fail
  go_loop [3, 8] (fun s q => ∃ k : Nat, k ≤ xs.length ∧ q = .int .i64 k ∧ s = .int .i64 (xs.take k).sum) (fun _ q => xs.length - (RowKit.intOf q).toNat)
  case atStart => exact ⟨0, Nat.zero_le _, rfl, by simp⟩
  case round =>
    obtain ⟨k, hk, rfl, rfl⟩ := hrel
    have hbd := sum_bound (xs.take k) (fun x hx => HBd.out x (List.mem_of_mem_take hx))
    have hlen : (xs.take k).length ≤ 6 := by simp; omega
    by_cases hlt : k < xs.length
    · obtain ⟨b, off, rfl, hbl, hcx⟩ := HC.out k hlt
      have hx := HBd.out _ (List.getElem_mem hlt)
      have HS := Lib.hid (sum_take_succ xs k hlt)
      generalize (xs.take k).sum = s0 at *
      generalize xs[k] = x at *
      have hb1 : 0 ≤ s0 ∧ s0 ≤ 360 := by omega
      obtain ⟨hb1, hb2⟩ := hb1
      obtain ⟨hx1, hx2⟩ := hx
      clear hbd hlen
      go_wp2_with fail
      go_round
      case rel => exact ⟨k + 1, by omega, by go_num, by rw [HS.out]⟩
      case measure => simp [RowKit.intOf]; omega
    · have HS : Hid ((xs.take k).sum = xs.sum) := by show _ = _; rw [List.take_of_length_le (by omega)]
      go_wp2_with fail
      go_ret
      exact ⟨ret_int HS.out, rfl⟩
/-- what RunTime returns -/
def runAns (n : NetD) (line fr tt : Int) : Int × Bool :=
  if h : NetGood n ∧ 0 ≤ line ∧ line < n.lines.length then
    let l := n.lines[line.toNat]'(by omega)
    if 0 ≤ fstIdx fr l.stops ∧ fstIdx fr l.stops < fstIdx tt l.stops then (runSum l (fstIdx fr l.stops).toNat (fstIdx tt l.stops).toNat, true) else (0, false)
  else (0, false)
def IsRun (n : NetD) (line fr tt : Int) (e : Ending) : Prop := e = .returned (.tuple #[.int .i64 (runAns n line fr tt).1, .bool (runAns n line fr tt).2])
theorem run_bad {n : NetD} {line fr tt : Int} (h : ¬ (NetGood n ∧ 0 ≤ line ∧ line < n.lines.length)) : IsRun n line fr tt (.returned (.tuple #[.int .i64 0, .bool false])) := by
  unfold IsRun runAns; rw [dif_neg h]
theorem run_no {n : NetD} {i : Nat} {fr tt : Int} (hi : i < n.lines.length) (h : ¬ (0 ≤ fstIdx fr n.lines[i].stops ∧ fstIdx fr n.lines[i].stops < fstIdx tt n.lines[i].stops)) : IsRun n i fr tt (.returned (.tuple #[.int .i64 0, .bool false])) := by
  unfold IsRun runAns
  split
  · rename_i g
    have h' : ¬ (0 ≤ fstIdx fr (n.lines[((i : Nat) : Int).toNat]'(by omega)).stops ∧ fstIdx fr (n.lines[((i : Nat) : Int).toNat]'(by omega)).stops < fstIdx tt (n.lines[((i : Nat) : Int).toNat]'(by omega)).stops) := h
    simp only [if_neg h']
  · rfl
theorem run_yes {n : NetD} {i : Nat} {fr tt : Int} (hg : NetGood n) (hi : i < n.lines.length) {a b : Nat} (ha : fstIdx fr n.lines[i].stops = a) (hb : fstIdx tt n.lines[i].stops = b) (h : a < b) : IsRun n i fr tt (.returned (.tuple #[.int .i64 (runSum n.lines[i] a b), .bool true])) := by
  unfold IsRun runAns
  rw [dif_pos ⟨hg, by omega, by omega⟩]
  have e : n.lines[((i : Nat) : Int).toNat]'(by omega) = n.lines[i] := rfl
  simp only [e, ha, hb]
  rw [if_pos ⟨by omega, by omega⟩]
  rfl
/-- a stop that is none of the network's is on no line -/
theorem run_off {n : NetD} {line fr tt : Int} (h : ¬ (NetGood n ∧ 0 ≤ fr ∧ fr < n.stops.length) ∨ ¬ (NetGood n ∧ 0 ≤ tt ∧ tt < n.stops.length)) : IsRun n line fr tt (.returned (.tuple #[.int .i64 0, .bool false])) := by
  by_cases hg : NetGood n ∧ 0 ≤ line ∧ line < n.lines.length
  · obtain ⟨i, rfl⟩ := Int.eq_ofNat_of_zero_le hg.2.1
    have hi : i < n.lines.length := by have := hg.2.2; omega
    refine run_no hi fun ⟨h1, h2⟩ => ?_
    have hl := good_line hg.1 i hi
    have hm : ∀ s, 0 ≤ fstIdx s n.lines[i].stops → 0 ≤ s ∧ s < n.stops.length := fun s hs => by
      by_cases hin : s ∈ n.lines[i].stops
      · exact hl.2.2.1 s hin
      · rw [fstIdx_none hin] at hs; omega
    rcases h with h | h
    · exact h ⟨hg.1, hm fr h1⟩
    · exact h ⟨hg.1, hm tt (by omega)⟩
  · exact run_bad hg

theorem keep5 {W w w' : World} {p0 p1 p2 p3 : Addr} {x0 x1 x2 x3 : Value} (hb : Below w.heap.size w w') (h : w.cell? p0 = some x0 ∧ w.cell? p1 = some x1 ∧ w.cell? p2 = some x2 ∧ w.cell? p3 = some x3 ∧ Below W.heap.size W w) :
    w'.cell? p0 = some x0 ∧ w'.cell? p1 = some x1 ∧ w'.cell? p2 = some x2 ∧ w'.cell? p3 = some x3 ∧ Below W.heap.size W w' := keepX hb h

set_option maxRecDepth 100000 in
set_option maxHeartbeats 4000000 in
theorem specRunTime_any (v : Value) (n : NetD) (line fr tt : Int) (w : World) (hr : NetAt w v n) (hf : NetFits n) (hs : NetSmall n) :
    Calls Try.prog 55 #[v, .int .i64 line, .int .i64 fr, .int .i64 tt] w fun e w' => IsRun n line fr tt e ∧ Below w.heap.size w w' := by
  have HStop := Lib.hid (fun W (h : Below w.heap.size w W) s => l2Stop_any v n s W (hr.below rfl h) hf hs)
  have hsz := hs.2.1
  obtain ⟨a, c, a', c', rfl, hss, hll⟩ := net_open hr
  obtain ⟨_, _, he, _, _, HC⟩ := lines_open hll
  simp at he
  obtain ⟨rfl, rfl⟩ := he
  clear hss hll hr hs
  go_enter Try.func55, Try.ntmps55
  go_wp2_with fail
  go_at_call 91
  refine (HStop.out _ ((Below.refl _ _).alloc (Nat.le_refl _) _) _).mono ?_
  rintro e w1 ⟨h1, hb1⟩
  have HB1 : Hid (Below w.heap.size w w1) := ((Below.refl _ _).alloc (Nat.le_refl _) _).trans (hb1.mono (by simp))
  have p0 : w1.cell? ⟨w.heap.size, 0, none⟩ = some (.slice a n.stops.length c) := bkeep hb1 (by go_simp)
  have p1 : w1.cell? ⟨w.heap.size, 1, none⟩ = some (.slice a' n.lines.length c') := bkeep hb1 (by go_simp)
  clear hb1
  rcases h1 with ⟨hfr, rfl⟩ | ⟨hfr, rfl⟩
  · have HFr := Lib.hid hfr
    clear hfr
    go_wp2_with fail
    go_at_call 91
    refine (HStop.out _ HB1.out _).mono ?_
    rintro e w2 ⟨h2, hb2⟩
    have HB2 : Hid (Below w.heap.size w w2) := HB1.out.trans (hb2.mono HB1.out.size)
    have q0 := bkeep hb2 p0
    have q1 := bkeep hb2 p1
    clear hb2 p0 p1
    rcases h2 with ⟨htt, rfl⟩ | ⟨htt, rfl⟩
    · clear htt
      by_cases hln : 0 ≤ line ∧ line ≤ (n.lines.length : Int) - 1
      · have HLn := Lib.hid hln
        obtain ⟨i, hi⟩ := Int.eq_ofNat_of_zero_le hln.1
        subst hi
        have hi : i < n.lines.length := by have := hln.2; omega
        clear hln
        obtain ⟨b, off, rfl, hbl, hla⟩ := HC.out i hi
        obtain ⟨sv, rv, y0, y1, y2, hlv⟩ := hla.toV
        have HPl := Lib.hid (fun W (h : Below w.heap.size w W) s A (hA : fstIdx s n.lines[i].stops = A) => (l2Place_any _ n.lines[i] s W (hlv.below rfl h)).mono (R' := fun e w' => e = .returned (.int .i64 A) ∧ Below W.heap.size W w') (fun e w' ⟨he, hw⟩ => ⟨by rw [he, hA], hw⟩))
        have hgl := good_line HFr.out.1 i hi
        have HRun := Lib.hid (fun W (h : Below w.heap.size w W) (x y : Nat) (hxy : x < y) (hy : y ≤ n.lines[i].runs.length) => l2Run_any _ n.lines[i] x y W (hlv.below rfl h) hxy hy (by have := hgl.2.1; omega) hgl.2.2.2.2)
        have HGl := Lib.hid hgl
        have HY := Lib.hid (And.intro y0 (And.intro y1 y2))
        clear hla hlv hgl y0 y1 y2
        go_wp2_with (go_at_call 75; refine (l1In_yes _ _ _ _ HLn.out).mono ?_; rintro e w' ⟨rfl, rfl⟩)
        have hx0 := HB2.out.cell (p := ⟨b, off + i * 3, none⟩) hbl
        rw [HY.out.1] at hx0
        have hx1 := HB2.out.cell (p := ⟨b, off + i * 3 + 1, none⟩) hbl
        rw [HY.out.2.1] at hx1
        have hx2 := HB2.out.cell (p := ⟨b, off + i * 3 + 2, none⟩) hbl
        rw [HY.out.2.2] at hx2
        have hi0 : (0 : Int) ≤ (i : Int) := by omega
        have hi1 : (i : Int) < (n.lines.length : Int) := by omega
        obtain ⟨A, hA⟩ : ∃ A, fstIdx fr n.lines[i].stops = A := ⟨_, rfl⟩
        obtain ⟨B, hB⟩ : ∃ B, fstIdx tt n.lines[i].stops = B := ⟨_, rfl⟩
        have HA := Lib.hid hA
        have HB := Lib.hid hB
        clear hA hB
        go_region_held3 (fun w' => w'.cell? ⟨w.heap.size, 1, none⟩ = some (.slice (some ⟨b, off, none⟩) n.lines.length c') ∧ w'.cell? ⟨b, off + i * 3, none⟩ = some (.string n.lines[i].name) ∧ w'.cell? ⟨b, off + i * 3 + 1, none⟩ = some sv ∧ w'.cell? ⟨b, off + i * 3 + 2, none⟩ = some rv ∧ Below w.heap.size w w')
          (first | (exact ⟨q1, hx0, hx1, hx2, HB2.out.drew⟩) | (exact keepX hb (by assumption)))
          ((go_at_call 103; refine (HPl.out _ (belX (by assumption)) _ _ (by first | exact HA.out | exact HB.out)).mono ?_; rintro e w' ⟨rfl, hb⟩))
        all_goals
          obtain ⟨r1, r2, r3, r4, qb⟩ := (by assumption : _ ∧ _)
          clear hx0 hx1 hx2 q0 q1
          have HQ := Lib.hid qb
          clear qb
          by_cases hA0 : A < 0
          · have HR := Lib.hid (run_no (fr := fr) (tt := tt) hi (by rw [HA.out]; omega))
            go_wp2_with fail
            go_ret2
            exact ⟨HR.out, HQ.out⟩
          · have hA1 : 0 ≤ A := by omega
            by_cases hAB : B ≤ A
            · have HR := Lib.hid (run_no (fr := fr) (tt := tt) hi (by rw [HA.out, HB.out]; omega))
              clear hA0
              go_wp2_with fail
              go_ret2
              exact ⟨HR.out, HQ.out⟩
            · obtain ⟨x, rfl⟩ := Int.eq_ofNat_of_zero_le hA1
              obtain ⟨y, rfl⟩ := Int.eq_ofNat_of_zero_le (show 0 ≤ B by omega)
              have hxy : x < y := by omega
              have hyl : y ≤ n.lines[i].runs.length := by
                have h1 := fstIdx_lt tt n.lines[i].stops; rw [HB.out] at h1; have h2 := HGl.out.2.1.2.2; omega
              have HR := Lib.hid (run_yes (fr := fr) (tt := tt) HFr.out.1 hi HA.out HB.out hxy)
              have h0 : ¬ (x : Int) < 0 := by omega
              have h1 : ¬ (y : Int) ≤ (x : Int) := by omega
              clear hA0 hA1 hAB
              go_wp2_with fail
              go_at_call 105
              refine (HRun.out _ HQ.out x y hxy hyl).mono ?_
              rintro e w3 ⟨rfl, hb3⟩
              have HQ3 : Hid (Below w.heap.size w w3) := HQ.out.trans (hb3.mono HQ.out.size)
              clear hb3
              go_wp2_with fail
              go_ret2
              exact ⟨HR.out, HQ3.out⟩
      · have HLn := Lib.hid hln
        have HR := Lib.hid (run_bad (n := n) (fr := fr) (tt := tt) (line := line) (fun h => hln (by have := h.2; omega)))
        clear hln
        go_wp2_with (go_at_call 75; refine (l1In_no _ _ _ _ HLn.out).mono ?_; rintro e w' ⟨rfl, rfl⟩)
        go_ret2
        exact ⟨HR.out, HB2.out⟩
    · have HR := Lib.hid (run_off (n := n) (line := line) (fr := fr) (tt := tt) (.inr htt))
      clear htt
      go_wp2_with fail
      go_ret2
      exact ⟨HR.out, HB2.out⟩
  · have HR := Lib.hid (run_off (n := n) (line := line) (fr := fr) (tt := tt) (.inl hfr))
    clear hfr
    go_wp2_with fail
    go_ret2
    exact ⟨HR.out, HB1.out⟩
theorem ret_bool {a b : Bool} (h : a = b) : Ending.returned (.bool a) = .returned (.bool b) := by rw [h]
theorem isLineOf_any (v : Value) (n : NetD) (line : Int) (w : World) (hr : NetAt w v n) (hf : NetFits n) :
    Calls Try.prog 70 #[v, .int .i64 line] w fun e w' => (((NetGood n ∧ 0 ≤ line ∧ line < n.lines.length) ∧ e = .returned (.bool true)) ∨ (¬ (NetGood n ∧ 0 ≤ line ∧ line < n.lines.length) ∧ e = .returned (.bool false))) ∧ Below w.heap.size w w' := by
  have HG := Lib.hid (fun W (h : Below w.heap.size w W) => implValid_any v n W (hr.below rfl h) hf)
  obtain ⟨a, c, a', c', rfl, hss, hll⟩ := net_open hr
  clear hss hll hr hf
  by_cases hg : NetGood n
  · rw [netB_yes hg] at HG
    have HGo := Lib.hid hg
    clear hg
    have hways : (line < 0) ∨ (0 ≤ line ∧ (n.lines.length : Int) ≤ line) ∨ (0 ≤ line ∧ line < (n.lines.length : Int)) := by omega
    rcases hways with h0 | ⟨h0, h1⟩ | ⟨h0, h1⟩
    all_goals
      go_enter Try.func70, Try.ntmps70
      go_wp2_with fail
      go_at_call 29
      refine (HG.out _ ((Below.refl _ _).alloc (Nat.le_refl _) _)).mono ?_
      rintro e w1 ⟨rfl, hb1⟩
      have HB1 : Hid (Below w.heap.size w w1) := ((Below.refl _ _).alloc (Nat.le_refl _) _).trans (hb1.mono (by simp))
      have p1 : w1.cell? ⟨w.heap.size, 1, none⟩ = some (.slice a' n.lines.length c') := bkeep hb1 (by go_simp)
      clear hb1
      go_wp2_with fail
      go_ret
    · exact ⟨.inr ⟨fun h => by omega, rfl⟩, HB1.out⟩
    · exact ⟨.inr ⟨fun h => by omega, ret_bool (decide_eq_false (by omega))⟩, HB1.out⟩
    · exact ⟨.inl ⟨⟨HGo.out, h0, h1⟩, rfl⟩, HB1.out⟩
  · rw [netB_no hg] at HG
    have HGo := Lib.hid hg
    clear hg
    go_enter Try.func70, Try.ntmps70
    go_wp2_with fail
    go_at_call 29
    refine (HG.out _ ((Below.refl _ _).alloc (Nat.le_refl _) _)).mono ?_
    rintro e w1 ⟨rfl, hb1⟩
    go_wp2_with fail
    go_ret
    exact ⟨.inr ⟨fun h => HGo.out h.1, rfl⟩, ((Below.refl _ _).alloc (Nat.le_refl _) _).trans (hb1.mono (by simp))⟩

set_option maxRecDepth 100000 in
set_option maxHeartbeats 4000000 in
theorem implRunTime_any (v : Value) (n : NetD) (line fr tt : Int) (w : World) (hr : NetAt w v n) (hf : NetFits n) :
    Calls Try.prog 31 #[v, .int .i64 line, .int .i64 fr, .int .i64 tt] w fun e w' => IsRun n line fr tt e ∧ Below w.heap.size w w' := by
  have HIs := Lib.hid (fun W (h : Below w.heap.size w W) => isLineOf_any v n line W (hr.below rfl h) hf)
  obtain ⟨a, c, a', c', rfl, hss, hll⟩ := net_open hr
  obtain ⟨_, _, he, _, _, HC⟩ := lines_open hll
  simp at he
  obtain ⟨rfl, rfl⟩ := he
  clear hss hll hr hf
  go_enter Try.func31, Try.ntmps31
  go_wp2_with fail
  go_at_call 70
  refine (HIs.out _ ((Below.refl _ _).alloc (Nat.le_refl _) _)).mono ?_
  rintro e w1 ⟨h1, hb1⟩
  have HB1 : Hid (Below w.heap.size w w1) := ((Below.refl _ _).alloc (Nat.le_refl _) _).trans (hb1.mono (by simp))
  have p1 : w1.cell? ⟨w.heap.size, 1, none⟩ = some (.slice a' n.lines.length c') := bkeep hb1 (by go_simp)
  clear hb1
  rcases h1 with ⟨hok, rfl⟩ | ⟨hok, rfl⟩
  · obtain ⟨hg, hl0, hl1⟩ := hok
    obtain ⟨i, hi⟩ := Int.eq_ofNat_of_zero_le hl0
    subst hi
    have hi : i < n.lines.length := by omega
    clear hl0
    obtain ⟨b, off, rfl, hbl, hla⟩ := HC.out i hi
    obtain ⟨a1, c1, a2, c2, y0, y1, y2, hlv⟩ := hla.toW
    have hlv1 := hlv.below rfl HB1.out
    obtain ⟨_, _, hh, hsr, hrr⟩ := hlv1
    simp at hh
    obtain ⟨rfl, rfl⟩ := hh
    have hgl := good_line hg i hi
    have HIdx := Lib.hid (fun W (h : Below w1.heap.size w1 W) s A (hA : fstIdx s n.lines[i].stops = A) => (indexInt_any _ n.lines[i].stops s W (hsr.below rfl h)).mono (R' := fun e w' => e = .returned (.int .i64 A) ∧ W = w') (fun e w' ⟨he, hw⟩ => ⟨by rw [he, hA], hw⟩))
    have HRow := Lib.hid hrr
    have HGl := Lib.hid hgl
    have HG := Lib.hid hg
    have hx0 := HB1.out.cell (p := ⟨b, off + i * 3, none⟩) hbl
    rw [y0] at hx0
    have hx1 := HB1.out.cell (p := ⟨b, off + i * 3 + 1, none⟩) hbl
    rw [y1] at hx1
    have hx2 := HB1.out.cell (p := ⟨b, off + i * 3 + 2, none⟩) hbl
    rw [y2] at hx2
    have hrl : n.lines[i].runs.length ≤ c2 := by
      obtain ⟨_, _, e1, e2, _⟩ := hrr; simp at e1; obtain ⟨_, _, rfl⟩ := e1; rw [ints_len] at e2; exact e2
    obtain ⟨A, hA⟩ : ∃ A, fstIdx fr n.lines[i].stops = A := ⟨_, rfl⟩
    obtain ⟨B, hB⟩ : ∃ B, fstIdx tt n.lines[i].stops = B := ⟨_, rfl⟩
    have HA := Lib.hid hA
    have HB := Lib.hid hB
    clear hA hB hla hlv y0 y1 y2 hg hgl hsr hrr
    go_wp2_with fail
    go_quiet ((go_at_call 81; exact quietL (HIdx.out _ (((Below.refl _ _).alloc (Nat.le_refl _) _).trans ((Dr.below ⟨_, rfl⟩).mono (by simp))) _ _ (by first | exact HA.out | exact HB.out))))
    have hbf : ∀ m, Below w.heap.size w ((w1.alloc (.cells #[.string n.lines[i].name, .slice a1 n.lines[i].stops.length c1, .slice a2 n.lines[i].runs.length c2] 45 (0, 0))).drewN m) := fun m =>
      (HB1.out.alloc HB1.out.size _).trans ((Dr.below ⟨m, rfl⟩).mono (by simp; have := HB1.out.size; omega))
    have HBF := Lib.hid hbf
    clear hbf hx0 hx1 hx2 p1
    by_cases hA0 : A < 0
    · have HR := Lib.hid (run_no (fr := fr) (tt := tt) hi (by rw [HA.out]; omega))
      go_wp2_with fail
      go_ret2
      exact ⟨HR.out, HBF.out _⟩
    · have hA1 : 0 ≤ A := by omega
      by_cases hAB : B ≤ A
      · have HR := Lib.hid (run_no (fr := fr) (tt := tt) hi (by rw [HA.out, HB.out]; omega))
        clear hA0
        go_wp2_with fail
        go_ret2
        exact ⟨HR.out, HBF.out _⟩
      · obtain ⟨x, rfl⟩ := Int.eq_ofNat_of_zero_le hA1
        obtain ⟨y, rfl⟩ := Int.eq_ofNat_of_zero_le (show 0 ≤ B by omega)
        have hxy : x < y := by omega
        have hyl : y ≤ n.lines[i].runs.length := by
          have h1 := fstIdx_lt tt n.lines[i].stops; rw [HB.out] at h1; have h2 := HGl.out.2.1.2.2; omega
        have HR := Lib.hid (run_yes (fr := fr) (tt := tt) HG.out hi HA.out HB.out hxy)
        have h0 : ¬ (x : Int) < 0 := by omega
        have h1 : ¬ (y : Int) ≤ (x : Int) := by omega
        obtain ⟨rb, ro, rfl, hpart⟩ := row_part HRow.out hxy hyl
        have hlen6 : n.lines[i].runs.length ≤ 6 := by have := HGl.out.2.1; omega
        have HSum := Lib.hid (fun m => sumOf_any _ _ _ ((hpart.below rfl ((Below.refl _ _).alloc (Nat.le_refl _) (.cells #[.string n.lines[i].name, .slice a1 n.lines[i].stops.length c1, .slice (some ⟨rb, ro, none⟩) n.lines[i].runs.length c2] 45 (0, 0)))).drewN m) (by simp; omega) (fun r hr => HGl.out.2.2.2.2 r (List.mem_of_mem_drop (List.mem_of_mem_take hr))))
        have e1 : (x : Int) ≤ (y : Int) := by omega
        have e2 : (y : Int) ≤ (c2 : Int) := by omega
        clear hA0 hA1 hAB hpart hyl
        go_wp2_with fail
        go_at_call 82
        refine (HSum.out _).mono ?_
        rintro e w3 ⟨rfl, rfl⟩
        go_wp2_with fail
        go_ret2
        exact ⟨HR.out, HBF.out _⟩
  · have HR := Lib.hid (run_bad (fr := fr) (tt := tt) hok)
    clear hok
    go_wp2_with fail
    go_ret2
    exact ⟨HR.out, HB1.out⟩
theorem bothRunTime (n : NetD) (hf : NetFits n) (hs : NetSmall n) (line fr tt : Int) (w1 : (Lit.int .i64 line).wf = true) (w2 : (Lit.int .i64 fr).wf = true) (w3 : (Lit.int .i64 tt).wf = true) : ∃ (r : Int) (b : Bool), ∀ (v : Value) (w : World), NetAt w v n →
    Calls Try.prog 55 #[v, .int .i64 line, .int .i64 fr, .int .i64 tt] w (fun e w' => e = .returned (.tuple #[.int .i64 r, .bool b]) ∧ Below w.heap.size w w') ∧ Calls Try.prog 31 #[v, .int .i64 line, .int .i64 fr, .int .i64 tt] w (fun e w' => e = .returned (.tuple #[.int .i64 r, .bool b]) ∧ Below w.heap.size w w') :=
  ⟨_, _, fun v w h => ⟨specRunTime_any v n line fr tt w h hf hs, implRunTime_any v n line fr tt w h hf⟩⟩
end Go.Proofs.Yticmghmidnboaaa
