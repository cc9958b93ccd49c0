/-
  PLAIN WORDS on trips that are caught, and the CONTRACT of impl.catchOf.
-/
import Derived.Test.YtmbpkdplgfgheaaUselessWalks
import Derived.Test.YtmbpkdplgfgheaaStopTimesOf
namespace Go.Proofs.Ytmbpkdplgfgheaa
open Go.RowKit
set_option linter.unusedVariables false
set_option linter.unusedSimpArgs false

/-- a trip can be caught at its m-th stop -/
def okC (st tm R : List Int) (tt : Int) (m : Nat) : Prop := 0 ≤ wat R (st.getD m 0).toNat ∧ tt + wat R (st.getD m 0).toNat ≤ tm.getD m 0
instance (st tm R : List Int) (tt : Int) (m : Nat) : Decidable (okC st tm R tt m) := by unfold okC; infer_instance
/-- the first of the first m stops at which a trip can be caught -/
def catF (st tm R : List Int) (tt : Int) : Nat → Option Nat
  | 0 => none
  | m + 1 => match catF st tm R tt m with
    | some q => some q
    | none => if okC st tm R tt m then some m else none
theorem catF_yes {st tm R : List Int} {tt : Int} {m : Nat} (h : catF st tm R tt m = none) (h1 : okC st tm R tt m) : ∀ {L : Nat}, m < L → catF st tm R tt L = some m
  | 0, hl => by omega
  | L + 1, hl => by
    by_cases e : m = L
    · subst e; simp only [catF, h, if_pos h1]
    · have := catF_yes h h1 (L := L) (by omega)
      simp only [catF, this]
theorem catF_no {st tm R : List Int} {tt : Int} {m : Nat} (h : catF st tm R tt m = none) (h1 : ¬ okC st tm R tt m) : catF st tm R tt (m + 1) = none := by
  simp only [catF, h, if_neg h1]
theorem catF_ok {st tm R : List Int} {tt : Int} : ∀ {m q : Nat}, catF st tm R tt m = some q → okC st tm R tt q ∧ q < m
  | 0, q, h => by cases h
  | m + 1, q, h => by
    simp only [catF] at h
    split at h
    · rename_i r hr
      cases h
      have := catF_ok hr
      exact ⟨this.1, by omega⟩
    · split at h
      · cases h; exact ⟨by assumption, by omega⟩
      · cases h
def connV (id : Int) (st tm : List Int) : Option Nat → Value
  | none => .agg #[.int .i64 0, .int .i64 0, .int .i64 0, .int .i64 0]
  | some m => .agg #[.int .i64 id, .int .i64 (st.getD m 0), .int .i64 (m : Int), .int .i64 (tm.getD m 0)]
/-- walking times as numbers -/
def RowTimes (R : List Int) : Prop := ∀ s, s < R.length → wat R s = -1 ∨ (0 ≤ wat R s ∧ wat R s ≤ 1000)
theorem tk_getD (s : Int) (rs : List Int) (p m : Nat) (h : m < p) : (tk s rs p).getD m 0 = s + (rs.take m).sum := by
  induction p with
  | zero => omega
  | succ p ih =>
    rw [tk_succ]
    have hl : (tk s rs p).length = p := tk_len s rs p
    rw [List.getD_eq_getElem?_getD]
    by_cases e : m = p
    · subst e
      rw [List.getElem?_append_right (by omega), hl]; simp
    · rw [List.getElem?_append_left (by omega), ← List.getD_eq_getElem?_getD]
      exact ih (by omega)

set_option maxRecDepth 100000 in
set_option maxHeartbeats 4000000 in
theorem catchOf_any (nv rv : Value) (n : NetD) (x : TripD) (R : List Int) (tt : Int) (w : World) (hr : NetAt w nv n) (li : Nat) (hx : x.line = li) (hli : li < n.lines.length)
    (hlr : n.lines[li].runs.length + 1 = n.lines[li].stops.length) (hl : n.lines[li].runs.length ≤ 6) (hb : ∀ r ∈ n.lines[li].runs, 1 ≤ r ∧ r ≤ 60) (hs0 : 0 ≤ x.start) (hs1 : x.start ≤ 1799)
    (hst : ∀ s ∈ n.lines[li].stops, 0 ≤ s ∧ s < (R.length : Int)) (hR : RowAt w rv (ints R)) (hRt : RowTimes R) (ht0 : 0 ≤ tt) (ht1 : tt ≤ 100000) (hRl : R.length ≤ 1000) :
    Calls Try.prog 115 #[nv, tripV x, rv, .int .i64 tt] w fun e w' => e = .returned (.tuple #[connV x.id n.lines[li].stops (tk x.start n.lines[li].runs (n.lines[li].runs.length + 1)) (catF n.lines[li].stops (tk x.start n.lines[li].runs (n.lines[li].runs.length + 1)) R tt n.lines[li].runs.length), .bool (catF n.lines[li].stops (tk x.start n.lines[li].runs (n.lines[li].runs.length + 1)) R tt n.lines[li].runs.length).isSome]) ∧ Below w.heap.size w w' := by
  have HSt := Lib.hid (fun W (h : Below w.heap.size w W) => stopTimesOf_any nv n x W (hr.below rfl h) li hx hli hl hb hs0 hs1)
  obtain ⟨a, c, a', c', rfl, -, -⟩ := net_open hr
  obtain ⟨lb, lo, s0, s1, r0, r1, rfl, hlb, x0, x1, x2, hrs, hrr⟩ := net_line hr li hli
  obtain ⟨ra, rc, rfl, -, -, hRc⟩ := ints_open hR
  have HRc := hRc
  have hli1 : (li : Int) < (n.lines.length : Int) := by omega
  have HStop := Lib.hid hst
  have HRow := Lib.hid hrs
  have HRt := Lib.hid hRt
  have htl := tk_len x.start n.lines[li].runs (n.lines[li].runs.length + 1)
  obtain ⟨T, hT⟩ : ∃ T, tk x.start n.lines[li].runs (n.lines[li].runs.length + 1) = T := ⟨_, rfl⟩
  rw [hT] at htl ⊢
  rw [hT] at HSt
  clear hr hrs hrr hR hRt hst hb hT hRc
  obtain ⟨xi, xl, xs⟩ := x
  simp only at *
  subst hx
  unfold tripV at *
  simp only at *
  generalize n.lines[li] = l at *
  obtain ⟨L, hL⟩ : ∃ L, l.runs.length = L := ⟨_, rfl⟩
  rw [hL] at hlr hl htl HSt ⊢
  clear hL
  have hlw : IntKind.i64.wrap ((l.stops.length : Int) - 1) = (L : Int) := by rw [show (l.stops.length : Int) - 1 = (L : Int) by omega]; exact IntWalk.i64_in _ (by omega)
  have hsl : (L : Int) ≤ (l.stops.length : Int) := by omega
  have hL0 : (0 : Int) ≤ (L : Int) := by omega
  obtain ⟨res, hres⟩ : ∃ res, catF l.stops T R tt L = res := ⟨_, rfl⟩
  have HRes := Lib.hid hres
  rw [hres]
  clear hres
  have hlb1 : lb < w.heap.size + 1 := by omega
  have hlb2 : lb < w.heap.size + 1 + 1 := by omega
  have hlb3 : lb < w.heap.size + 1 + 1 + 1 := by omega
  go_enter Try.func115, Try.ntmps115
  go_wp2_with fail
  have h4 : Below w.heap.size w ((((w.alloc (.cells #[.slice a n.stops.length c, .slice (some ⟨lb, lo, none⟩) n.lines.length c'] 27)).alloc (.cells #[.int .i64 xi, .int .i64 (li : Int), .int .i64 xs] 87)).alloc (.cells #[.int .i64 0, .int .i64 0, .int .i64 0, .int .i64 0] 66)).alloc (.cells #[.string l.name, .slice s0 l.stops.length s1, .slice r0 l.runs.length r1] 36)) := ((((Below.refl _ _).alloc (Nat.le_refl _) _).alloc (by simp) _).alloc (by simp <;> omega) _).alloc (by simp <;> omega) _
  go_at_call 174
  refine (HSt.out _ h4).mono ?_
  rintro e w1 ⟨⟨v1, rfl, ho1⟩, hb1⟩
  have p0 : w1.cell? ⟨w.heap.size + 1, 0, none⟩ = some (.int .i64 xi) := bkeep hb1 (by go_simp)
  have f0 : w1.cell? ⟨w.heap.size + 1 + 1, 0, none⟩ = some (.int .i64 0) := bkeep hb1 (by go_simp)
  have f1 : w1.cell? ⟨w.heap.size + 1 + 1, 1, none⟩ = some (.int .i64 0) := bkeep hb1 (by go_simp)
  have f2 : w1.cell? ⟨w.heap.size + 1 + 1, 2, none⟩ = some (.int .i64 0) := bkeep hb1 (by go_simp)
  have f3 : w1.cell? ⟨w.heap.size + 1 + 1, 3, none⟩ = some (.int .i64 0) := bkeep hb1 (by go_simp)
  have l1 : w1.cell? ⟨w.heap.size + 1 + 1 + 1, 1, none⟩ = some (.slice s0 l.stops.length s1) := bkeep hb1 (by go_simp)
  have hfz : ∀ o, w1.frozen? ⟨w.heap.size + 1 + 1, o, none⟩ = false := fun o => fkeep hb1 (by simp <;> omega) (by go_simp)
  have HB1 : Hid (Below w.heap.size w w1) := h4.trans (hb1.mono h4.size)
  obtain ⟨va, vc, rfl⟩ := own_shape ho1
  obtain ⟨g3, rfl, -, hg3, hT3⟩ := own_cells ho1 (by omega) htl
  have HT3 := Lib.hid hT3
  obtain ⟨sb2, so2, he, hsb, -⟩ : ∃ b off, s0 = some ⟨b, off, none⟩ ∧ b < w.heap.size ∧ True := by
    obtain ⟨_, _, he, _, _, HC⟩ := ints_open HRow.out
    simp at he
    obtain ⟨rfl, rfl⟩ := he
    obtain ⟨b, off, h1, h2, _⟩ := HC.out 0 (by omega)
    exact ⟨b, off, h1, h2, trivial⟩
  subst he
  have hsc : (L : Int) ≤ (s1 : Int) := by
    obtain ⟨_, _, he, h1, _⟩ := ints_open HRow.out
    simp at he
    obtain ⟨-, rfl⟩ := he
    omega
  have HSc : Hid (∀ m (h : m < l.stops.length), w.cell? ⟨sb2, so2 + m, none⟩ = some (.int .i64 (l.stops[m]'h))) := fun m h => by
    obtain ⟨_, _, he, _, _, HC⟩ := ints_open HRow.out
    simp at he
    obtain ⟨rfl, rfl⟩ := he
    obtain ⟨b, off, h1, _, h2⟩ := HC.out m h
    simp at h1
    obtain ⟨rfl, rfl⟩ := h1
    exact h2
  clear hb1 ho1 hT3 HSt x0 x1 x2 h4
  go_wp2_with fail
  have HKeep : Hid (∀ wr : World, Below w1.heap.size w1 wr → wr.cell? ⟨w.heap.size + 1, 0, none⟩ = some (.int .i64 xi) ∧ wr.cell? ⟨w.heap.size + 1 + 1, 0, none⟩ = some (.int .i64 0) ∧ wr.cell? ⟨w.heap.size + 1 + 1, 1, none⟩ = some (.int .i64 0) ∧ wr.cell? ⟨w.heap.size + 1 + 1, 2, none⟩ = some (.int .i64 0) ∧ wr.cell? ⟨w.heap.size + 1 + 1, 3, none⟩ = some (.int .i64 0) ∧ ∀ o, wr.frozen? ⟨w.heap.size + 1 + 1, o, none⟩ = false) := fun wr h =>
    ⟨bkeep h p0, bkeep h f0, bkeep h f1, bkeep h f2, bkeep h f3, fun o => fkeep h (show w.heap.size + 1 + 1 < w1.heap.size from World.block_lt_of_cell? _ _ f0) (hfz o)⟩
  clear p0 f0 f1 f2 f3 l1 hfz
  go_loopw [31] (fun i wr => ∃ m : Nat, m ≤ L ∧ i = .int .i64 m ∧ Hid (catF l.stops T R tt m = none) ∧ Hid (Below w1.heap.size w1 wr)) (fun i _ => L - (RowKit.intOf i).toNat)
  case atStart => exact ⟨0, Nat.zero_le _, rfl, rfl, Below.refl _ _⟩
  case round =>
    obtain ⟨m, hm, rfl, HC, HB⟩ := hrel
    by_cases hlt : m < L
    · have hm1 : (m : Int) < (L : Int) := by omega
      have hml : m < l.stops.length := by omega
      have hst := HStop.out l.stops[m] (List.getElem_mem hml)
      have HBw : Hid (Below w.heap.size w wr) := HB1.out.trans (HB.out.mono HB1.out.size)
      have y0 := bkeep HBw.out (HSc.out m hml)
      have y1 := bkeep HB.out (HT3.out m (by omega))
      have hgd : l.stops.getD m 0 = l.stops[m] := by simp [hml]
      have htd : T.getD m 0 = wat T m := by rw [wat_at (by omega)]; simp [show m < T.length by omega]
      obtain ⟨sm, hsm⟩ := Int.eq_ofNat_of_zero_le hst.1
      have hsR : sm < R.length := by omega
      obtain ⟨rb, ro, hra, hrb, y2⟩ := HRc.out sm hsR
      subst hra
      have y2 := bkeep HBw.out y2
      have hRv := HRt.out sm hsR
      have hsR1 : (sm : Int) < (R.length : Int) := by omega
      rw [hsm] at y0
      rw [← wat_at hsR] at y2
      have HOk : Hid (okC l.stops T R tt m ↔ 0 ≤ wat R sm ∧ tt + wat R sm ≤ wat T m) := by
        show _ ↔ _
        unfold okC
        rw [hgd, hsm, htd]
        simp only [Int.toNat_natCast]
      have HYes : Hid (okC l.stops T R tt m → res = some m) := fun h => by rw [← HRes.out]; exact catF_yes HC.out h hlt
      have HNo : Hid (¬ okC l.stops T R tt m → catF l.stops T R tt (m + 1) = none) := fun h => catF_no HC.out h
      have HCv : Hid (connV xi l.stops T (some m) = .agg #[.int .i64 xi, .int .i64 (sm : Int), .int .i64 (m : Int), .int .i64 (wat T m)]) := by
        show Value.agg #[.int .i64 xi, .int .i64 (l.stops.getD m 0), .int .i64 (m : Int), .int .i64 (T.getD m 0)] = _
        rw [hgd, hsm, htd]
      obtain ⟨p0, f0, f1, f2, f3, hfz⟩ := HKeep.out wr HB.out
      have hw1z := HB1.out.size
      have hwz := HB.out.size
      clear hgd htd hst hsm HC
      generalize wat R sm = RV at *
      generalize wat T m = TV at *
      by_cases c1 : RV = -1
      · have d1 : (RV != -1) = false := by simp [c1]
        have HN := Lib.hid (HNo.out (fun h => by have := (HOk.out.1 h).1; omega))
        clear HYes HNo HOk hRv c1
        go_wp2_with fail
        go_quiet (fail)
        go_wp2_with fail
        go_roundw
        case rel => exact ⟨m + 1, by omega, by go_num, HN, below_drewN HB.out _⟩
        case measure => simp [RowKit.intOf]; omega
      · have d1 : (RV != -1) = true := by simp [c1]
        have hRv2 : 0 ≤ RV ∧ RV ≤ 1000 := by rcases hRv with h | h; exact absurd h c1; exact h
        have hww : IntKind.i64.wrap (tt + RV) = tt + RV := IntWalk.i64_in _ (by omega)
        clear hRv c1
        by_cases c2 : tt + RV ≤ TV
        · have d2 : decide (tt + RV ≤ TV) = true := decide_eq_true c2
          have HY := Lib.hid (HYes.out (HOk.out.2 ⟨hRv2.1, c2⟩))
          clear HYes HNo HOk
          go_wp2_with fail
          go_quiet (fail)
          go_wp2_with fail
          go_region
          all_goals
            go_wp2_with fail
            refine bodyPost_ret (v := .tuple #[.agg #[.int .i64 xi, .int .i64 (sm : Int), .int .i64 (m : Int), .int .i64 TV], .bool true]) (by simp only [results, Try.results115]; go_simp) rfl ⟨by rw [HY.out, HCv.out]; rfl, ?_⟩
            exact ((((below_drewN HBw.out _).setCell (p := ⟨w.heap.size + 1 + 1, 0, none⟩) (by dsimp only; omega) _).setCell (p := ⟨w.heap.size + 1 + 1, 1, none⟩) (by dsimp only; omega) _).setCell (p := ⟨w.heap.size + 1 + 1, 2, none⟩) (by dsimp only; omega) _).setCell (p := ⟨w.heap.size + 1 + 1, 3, none⟩) (by dsimp only; omega) _
        · have d2 : decide (tt + RV ≤ TV) = false := decide_eq_false c2
          have HN := Lib.hid (HNo.out (fun h => c2 (HOk.out.1 h).2))
          clear HYes HNo HOk
          go_wp2_with fail
          go_quiet (fail)
          go_wp2_with fail
          go_roundw
          case rel => exact ⟨m + 1, by omega, by go_num, HN, below_drewN HB.out _⟩
          case measure => simp [RowKit.intOf]; omega
    · obtain rfl : m = L := by omega
      have HN : Hid (res = none) := by show _ = _; rw [← HRes.out]; exact HC.out
      obtain ⟨p0, f0, f1, f2, f3, hfz⟩ := HKeep.out wr HB.out
      go_wp2_with fail
      refine bodyPost_ret (v := .tuple #[.agg #[.int .i64 0, .int .i64 0, .int .i64 0, .int .i64 0], .bool false]) (by simp only [results, Try.results115]; go_simp) rfl ⟨by rw [HN.out]; rfl, ?_⟩
      have HBw : Hid (Below w.heap.size w wr) := HB1.out.trans (HB.out.mono HB1.out.size)
      exact (((HBw.out.setCell (p := ⟨w.heap.size + 1 + 1, 0, none⟩) (by dsimp only; omega) _).setCell (p := ⟨w.heap.size + 1 + 1, 1, none⟩) (by dsimp only; omega) _).setCell (p := ⟨w.heap.size + 1 + 1, 2, none⟩) (by dsimp only; omega) _).setCell (p := ⟨w.heap.size + 1 + 1, 3, none⟩) (by dsimp only; omega) _
end Go.Proofs.Ytmbpkdplgfgheaa
