import Derived.Test.YtehpeifaknbcnaaFollC
namespace Go.Proofs.Ytehpeifaknbcnaa
open Go.RowKit
set_option linter.unusedVariables false
set_option linter.unusedSimpArgs false

noncomputable def canOk (t : TTD) (f : FleetD) (a b : Int) : Bool := askedB t f && (foundT t a && foundT t b && !(a == b))
noncomputable def canA (t : TTD) (f : FleetD) (a b : Int) : Bool := canOk t f a b && follF t.net f (tripOf t a) (tripOf t b)

theorem TTGood.can {t : TTD} (h : TTGood t) (k : Nat) (hk : k < t.trips.length) : CanRun t.net (t.trips[k]'hk) := (h.step k hk).2.2.1
theorem can_of {t : TTD} (h : TTGood t) {id : Int} (hf : foundT t id = true) : CanRun t.net (tripOf t id) := by rw [tripOf_at hf]; exact h.can _ _

set_option maxRecDepth 100000 in
set_option maxHeartbeats 4000000 in
theorem implCan_any (tv fv : Value) (t : TTD) (f : FleetD) (a b : Int) (w : World) (hr : TTAt w tv t) (hf : TTFits t) (hg : FleetAt w fv f) (hs : GrpsSmall f.dead) :
    Calls Try.prog 22 #[tv, fv, .int .i64 a, .int .i64 b] w fun e w' => e = .returned (.tuple #[.bool (canA t f a b), .bool (canOk t f a b)]) ∧ Below w.heap.size w w' := by
  have HF := Lib.hid (fun W (h : Below w.heap.size w W) => hasFleet_any tv fv t f W (hr.below rfl h) hf (hg.below rfl h) hs)
  have HT := Lib.hid (fun W (h : Below w.heap.size w W) (hA : AskedGood t f) id => tripWith_any tv t id W (hr.below rfl h) hA.1)
  have HAt := Lib.hid hr
  have HGt := Lib.hid hg
  have HFo := Lib.hid (fun W (h : Below w.heap.size w W) (hA : AskedGood t f) (h1 : foundT t a = true) (h2 : foundT t b = true) nv (hn : NetAt W nv t.net) => follows_any nv fv t.net f (tripOf t a) (tripOf t b) W hn (hg.below rfl h) hA.2 (can_of hA.1 h1) (can_of hA.1 h2))
  obtain ⟨c0, d0, c1, d1, c2, d2, rfl, -, -⟩ := tt_open hr
  obtain ⟨fa, fc, rfl, -⟩ := fleet_open hg
  clear hr hg hf hs
  unfold canA canOk
  cases hA : askedB t f
  · rw [hA] at HF
    simp only [Bool.false_and]
    go_enter Try.func22, Try.ntmps22
    go_wp2_with fail
    go_at_call 61
    refine (HF.out _ (((Below.refl _ _).alloc (Nat.le_refl _) _).alloc (by simp) _)).mono ?_
    rintro e w1 ⟨rfl, hb1⟩
    have HB1 : Hid (Below w.heap.size w w1) := (((Below.refl _ _).alloc (Nat.le_refl _) _).alloc (by simp) _).trans (hb1.mono (by simp; omega))
    clear hb1
    go_wp2_with fail
    go_ret2
    exact ⟨rfl, HB1.out⟩
  · rw [hA] at HF
    have HA := Lib.hid (askedB_iff.1 hA)
    clear hA
    by_cases hab : a = b
    · have he : (a == b) = true := by simp [hab]
      simp only [he, Bool.not_true, Bool.and_false, Bool.false_and]
      subst hab
      go_enter Try.func22, Try.ntmps22
      go_wp2_with fail
      go_at_call 61
      refine (HF.out _ (((Below.refl _ _).alloc (Nat.le_refl _) _).alloc (by simp) _)).mono ?_
      rintro e w1 ⟨rfl, hb1⟩
      have HB1 : Hid (Below w.heap.size w w1) := (((Below.refl _ _).alloc (Nat.le_refl _) _).alloc (by simp) _).trans (hb1.mono (by simp; omega))
      clear hb1
      go_wp2_with fail
      go_ret2
      exact ⟨rfl, HB1.out⟩
    · have he : (a == b) = false := by simp [hab]
      have hne : ¬ a = b := hab
      simp only [he, Bool.not_false, Bool.and_true, Bool.true_and]
      obtain ⟨A1, hA1⟩ : ∃ A1, (foundT t a && foundT t b && follF t.net f (tripOf t a) (tripOf t b)) = A1 := ⟨_, rfl⟩
      obtain ⟨A2, hA2⟩ : ∃ A2, (foundT t a && foundT t b) = A2 := ⟨_, rfl⟩
      have HA1 := Lib.hid hA1
      have HA2 := Lib.hid hA2
      rw [hA1, hA2]
      clear hA1 hA2
      go_enter Try.func22, Try.ntmps22
      go_wp2_with fail
      go_at_call 61
      refine (HF.out _ (((Below.refl _ _).alloc (Nat.le_refl _) _).alloc (by simp) _)).mono ?_
      rintro e w1 ⟨rfl, hb1⟩
      have HB1 : Hid (Below w.heap.size w w1) := (((Below.refl _ _).alloc (Nat.le_refl _) _).alloc (by simp) _).trans (hb1.mono (by simp; omega))
      have hz1 : w.heap.size + 2 ≤ w1.heap.size := by have := hb1.size; simp at this; omega
      have p0 : w1.cell? ⟨w.heap.size, 0, none⟩ = some (.slice c0 t.net.stops.length d0) := bkeep hb1 (by go_simp)
      have p1 : w1.cell? ⟨w.heap.size, 1, none⟩ = some (.slice c1 t.net.lines.length d1) := bkeep hb1 (by go_simp)
      have p2 : w1.cell? ⟨w.heap.size, 2, none⟩ = some (.slice c2 t.trips.length d2) := bkeep hb1 (by go_simp)
      have q0 : w1.cell? ⟨w.heap.size + 1, 0, none⟩ = some (.slice fa f.dead.length fc) := bkeep hb1 (by go_simp)
      have q1 : w1.cell? ⟨w.heap.size + 1, 1, none⟩ = some (.int .i64 f.turn) := bkeep hb1 (by go_simp)
      clear hb1
      go_wp2_with fail
      go_at_call 62
      refine (HT.out _ HB1.out HA.out a).mono ?_
      rintro e w2 ⟨rfl, hb2⟩
      have HB2 : Hid (Below w.heap.size w w2) := HB1.out.trans (hb2.mono HB1.out.size)
      have hz2 : w.heap.size + 2 ≤ w2.heap.size := Nat.le_trans hz1 hb2.size
      have p0 := bkeep hb2 p0
      have p1 := bkeep hb2 p1
      have p2 := bkeep hb2 p2
      have q0 := bkeep hb2 q0
      have q1 := bkeep hb2 q1
      clear hb2 HB1 hz1
      have HXA : Hid ((if foundT t a = true then tripOf t a else zeroTrip) = (if foundT t a = true then tripOf t a else zeroTrip)) := rfl
      obtain ⟨x, hx⟩ : ∃ x, (if foundT t a = true then tripOf t a else zeroTrip) = x := ⟨_, rfl⟩
      obtain ⟨y, hy⟩ : ∃ y, (if foundT t b = true then tripOf t b else zeroTrip) = y := ⟨_, rfl⟩
      have HX := Lib.hid hx
      have HY := Lib.hid hy
      rw [hx]
      clear hx hy HXA
      obtain ⟨xi, xl, xs⟩ := x
      obtain ⟨yi, yl, ys⟩ := y
      unfold tripV
      simp only
      have P0 := acell p0 (.cells #[.int .i64 xi, .int .i64 xl, .int .i64 xs] 89)
      have P1 := acell p1 (.cells #[.int .i64 xi, .int .i64 xl, .int .i64 xs] 89)
      have P2 := acell p2 (.cells #[.int .i64 xi, .int .i64 xl, .int .i64 xs] 89)
      have Q0 := acell q0 (.cells #[.int .i64 xi, .int .i64 xl, .int .i64 xs] 89)
      have Q1 := acell q1 (.cells #[.int .i64 xi, .int .i64 xl, .int .i64 xs] 89)
      clear p0 p1 p2 q0 q1
      go_wp2_with fail
      go_at_call 62
      refine (HT.out _ (HB2.out.alloc (by omega) _) HA.out b).mono ?_
      rintro e w3 ⟨rfl, hb3⟩
      have HB3 : Hid (Below w.heap.size w w3) := (HB2.out.alloc (by omega) _).trans (hb3.mono (by simp; omega))
      have hz3 : w2.heap.size + 1 ≤ w3.heap.size := by have := hb3.size; simp at this; omega
      have x0 : w3.cell? ⟨w2.heap.size, 0, none⟩ = some (.int .i64 xi) := bkeep hb3 (by go_simp)
      have x1 : w3.cell? ⟨w2.heap.size, 1, none⟩ = some (.int .i64 xl) := bkeep hb3 (by go_simp)
      have x2 : w3.cell? ⟨w2.heap.size, 2, none⟩ = some (.int .i64 xs) := bkeep hb3 (by go_simp)
      have p0 := acell (bkeep hb3 P0) (.cells #[.int .i64 yi, .int .i64 yl, .int .i64 ys] 89)
      have p1 := acell (bkeep hb3 P1) (.cells #[.int .i64 yi, .int .i64 yl, .int .i64 ys] 89)
      have q0 := acell (bkeep hb3 Q0) (.cells #[.int .i64 yi, .int .i64 yl, .int .i64 ys] 89)
      have q1 := acell (bkeep hb3 Q1) (.cells #[.int .i64 yi, .int .i64 yl, .int .i64 ys] 89)
      have X0 := acell x0 (.cells #[.int .i64 yi, .int .i64 yl, .int .i64 ys] 89)
      have X1 := acell x1 (.cells #[.int .i64 yi, .int .i64 yl, .int .i64 ys] 89)
      have X2 := acell x2 (.cells #[.int .i64 yi, .int .i64 yl, .int .i64 ys] 89)
      clear hb3 P0 P1 P2 Q0 Q1 x0 x1 x2
      have hy := HY.out
      rw [hy]
      clear hy
      unfold tripV
      simp only
      cases h1 : foundT t a
      · go_wp2_with fail
        go_ret2
        exact ⟨by rw [← HA1.out, ← HA2.out, h1]; rfl, HB3.out.alloc (by omega) _⟩
      · cases h2 : foundT t b
        · go_wp2_with fail
          go_ret2
          exact ⟨by rw [← HA1.out, ← HA2.out, h1, h2]; rfl, HB3.out.alloc (by omega) _⟩
        · have hX := HX.out
          have hY := HY.out
          rw [h1] at hX
          rw [h2] at hY
          simp only [if_true] at hX hY
          have HC := Lib.hid (fun W (h : Below w.heap.size w W) nv hn => HFo.out W h HA.out h1 h2 nv hn)
          have HR1 : Hid (A1 = follF t.net f (tripOf t a) (tripOf t b)) := by show _ = _; rw [← HA1.out, h1, h2]; rfl
          have HR2 : Hid (A2 = true) := by show _ = _; rw [← HA2.out, h1, h2]; rfl
          rw [hX, hY] at HC HR1
          clear hX hY h1 h2 HX HY HFo HT HF HA1 HA2
          unfold tripV at HC
          simp only at HC
          generalize follF t.net f ⟨xi, xl, xs⟩ ⟨yi, yl, ys⟩ = r at *
          go_wp2_with fail
          go_at_call 63
          refine (HC.out _ (HB3.out.alloc (by omega) _) _ (tt_net (HAt.out.below rfl (HB3.out.alloc (by omega) _))).1).mono ?_
          rintro e w4 ⟨rfl, hb4⟩
          go_wp2_with fail
          go_ret2
          exact ⟨by rw [HR1.out, HR2.out]; rfl, (HB3.out.alloc (by omega) _).trans (hb4.mono (by simp; omega))⟩

theorem findI_yes {t : TTD} {id : Int} (hg : TTGood t) (h : foundT t id = true) : findI id t.trips = (pl t id : Nat) ∧ pl t id < t.trips.length := findI_found hg.asc' h
theorem findI_no {t : TTD} {id : Int} (hg : TTGood t) (h : foundT t id = false) : findI id t.trips = -1 := findI_none hg.asc' h
theorem keepF5 {W w w' : World} {p0 p1 p2 p3 p4 : Addr} {x0 x1 x2 x3 x4 : Value} (hb : Below w.heap.size w w') (h : w.cell? p0 = some x0 ∧ w.cell? p1 = some x1 ∧ w.cell? p2 = some x2 ∧ w.cell? p3 = some x3 ∧ w.cell? p4 = some x4 ∧ Below W.heap.size W w) : w'.cell? p0 = some x0 ∧ w'.cell? p1 = some x1 ∧ w'.cell? p2 = some x2 ∧ w'.cell? p3 = some x3 ∧ w'.cell? p4 = some x4 ∧ Below W.heap.size W w' := by
  obtain ⟨h0, h1, h2, h3, h4, hl⟩ := h
  exact ⟨bkeep hb h0, bkeep hb h1, bkeep hb h2, bkeep hb h3, bkeep hb h4, hl.trans (hb.mono hl.size)⟩
theorem belF5 {W w : World} {p0 p1 p2 p3 p4 : Addr} {x0 x1 x2 x3 x4 : Value} (h : w.cell? p0 = some x0 ∧ w.cell? p1 = some x1 ∧ w.cell? p2 = some x2 ∧ w.cell? p3 = some x3 ∧ w.cell? p4 = some x4 ∧ Below W.heap.size W w) : Below W.heap.size W w := h.2.2.2.2.2

set_option maxRecDepth 100000 in
set_option maxHeartbeats 4000000 in
theorem specCan_any (tv fv : Value) (t : TTD) (f : FleetD) (a b : Int) (w : World) (hr : TTAt w tv t) (hf : TTFits t) (hsm : TTSmall t) (hg : FleetAt w fv f) (hs : GrpsSmall f.dead) :
    Calls Try.prog 20 #[tv, fv, .int .i64 a, .int .i64 b] w fun e w' => e = .returned (.tuple #[.bool (canA t f a b), .bool (canOk t f a b)]) ∧ Below w.heap.size w w' := by
  have HC := Lib.hid (fun W (h : Below w.heap.size w W) id => l5Find_any tv t id W (hr.below rfl h) hsm)
  have HF := Lib.hid (fun W (h : Below w.heap.size w W) => l11Asked_any tv fv t f W (hr.below rfl h) hf (hg.below rfl h) hs)
  have HFo := Lib.hid (fun W (h : Below w.heap.size w W) (hA : AskedGood t f) (i k : Nat) (hik : i ≠ k) (hi : i < t.trips.length) (hk : k < t.trips.length) => l11Follows_any tv fv t f i k hik W (hr.below rfl h) (hg.below rfl h) hA hi hk)
  obtain ⟨c0, d0, c1, d1, c2, d2, rfl, -, -⟩ := tt_open hr
  obtain ⟨fa, fc, rfl, -⟩ := fleet_open hg
  clear hr hg hf hs hsm
  have HFa : Hid (AskedGood t f → foundT t a = true → findI a t.trips = (pl t a : Nat) ∧ pl t a < t.trips.length) := fun h h2 => findI_yes h.1 h2
  have HFb : Hid (AskedGood t f → foundT t b = true → findI b t.trips = (pl t b : Nat) ∧ pl t b < t.trips.length) := fun h h2 => findI_yes h.1 h2
  have HNa : Hid (AskedGood t f → foundT t a = false → findI a t.trips = -1) := fun h h2 => findI_no h.1 h2
  have HNb : Hid (AskedGood t f → foundT t b = false → findI b t.trips = -1) := fun h h2 => findI_no h.1 h2
  have HInj : Hid (foundT t a = true → foundT t b = true → pl t a = pl t b → a = b) := fun h h2 h3 => pl_inj h h2 h3
  have HTa : Hid (∀ (h : foundT t a = true) (hl : pl t a < t.trips.length), t.trips[pl t a] = tripOf t a) := fun h _ => (tripOf_at h).symm
  have HTb : Hid (∀ (h : foundT t b = true) (hl : pl t b < t.trips.length), t.trips[pl t b] = tripOf t b) := fun h _ => (tripOf_at h).symm
  obtain ⟨A1, hA1⟩ : ∃ A1, canA t f a b = A1 := ⟨_, rfl⟩
  obtain ⟨A2, hA2⟩ : ∃ A2, canOk t f a b = A2 := ⟨_, rfl⟩
  have HA1 := Lib.hid hA1
  have HA2 := Lib.hid hA2
  rw [hA1, hA2]
  clear hA1 hA2
  go_enter Try.func20, Try.ntmps20
  go_upto_region 1 with fail
  go_region_held3 (fun w' => w'.cell? ⟨w.heap.size, 0, none⟩ = some (.slice c0 t.net.stops.length d0) ∧ w'.cell? ⟨w.heap.size, 1, none⟩ = some (.slice c1 t.net.lines.length d1) ∧ w'.cell? ⟨w.heap.size, 2, none⟩ = some (.slice c2 t.trips.length d2) ∧ w'.cell? ⟨w.heap.size + 1, 0, none⟩ = some (.slice fa f.dead.length fc) ∧ w'.cell? ⟨w.heap.size + 1, 1, none⟩ = some (.int .i64 f.turn) ∧ Below w.heap.size w w')
    (first | (exact ⟨by go_simp, by go_simp, by go_simp, by go_simp, by go_simp, (((Below.refl _ _).alloc (Nat.le_refl _) _).alloc (by simp) _).drew⟩) | (exact keepF5 hb (by assumption)))
    ((go_at_call 57; refine (HC.out _ (belF5 (by assumption)) _).mono ?_; rintro e w' ⟨rfl, hb⟩))
  all_goals
    obtain ⟨p0, p1, p2, q0, q1, qb⟩ := (by assumption : _ ∧ _)
    have HB1 := Lib.hid qb
    clear qb
    go_wp2_with fail
    go_at_call 58
    refine (HF.out _ HB1.out).mono ?_
    rintro e w2 ⟨rfl, hb2⟩
    have HB2 := Lib.hid (HB1.out.trans (hb2.mono HB1.out.size))
    have p0 := bkeep hb2 p0
    have p1 := bkeep hb2 p1
    have p2 := bkeep hb2 p2
    have q0 := bkeep hb2 q0
    have q1 := bkeep hb2 q1
    clear hb2 HB1 HC
    generalize findI a t.trips = ia at *
    generalize findI b t.trips = ib at *
    cases hA : askedB t f
    · have HR : Hid (A1 = false ∧ A2 = false) := ⟨by rw [← HA1.out]; unfold canA canOk; rw [hA]; rfl, by rw [← HA2.out]; unfold canOk; rw [hA]; rfl⟩
      go_wp2_with fail
      go_ret2
      exact ⟨by rw [HR.out.1, HR.out.2]; rfl, HB2.out⟩
    · have HAs := Lib.hid (askedB_iff.1 hA)
      cases h1 : foundT t a
      · have HR : Hid (A1 = false ∧ A2 = false) := ⟨by rw [← HA1.out]; unfold canA canOk; rw [hA, h1]; rfl, by rw [← HA2.out]; unfold canOk; rw [hA, h1]; rfl⟩
        obtain rfl : ia = -1 := HNa.out HAs.out h1
        go_wp2_with fail
        go_ret2
        exact ⟨by rw [HR.out.1, HR.out.2]; rfl, HB2.out⟩
      · obtain ⟨rfl, hla⟩ := HFa.out HAs.out h1
        cases h2 : foundT t b
        · have HR : Hid (A1 = false ∧ A2 = false) := ⟨by rw [← HA1.out]; unfold canA canOk; rw [hA, h1, h2]; rfl, by rw [← HA2.out]; unfold canOk; rw [hA, h1, h2]; rfl⟩
          obtain rfl : ib = -1 := HNb.out HAs.out h2
          go_wp2_with fail
          go_ret2
          exact ⟨by rw [HR.out.1, HR.out.2]; rfl, HB2.out⟩
        · obtain ⟨rfl, hlb⟩ := HFb.out HAs.out h2
          by_cases hab : a = b
          · have HR : Hid (A1 = false ∧ A2 = false) := ⟨by rw [← HA1.out]; unfold canA canOk; simp [hab], by rw [← HA2.out]; unfold canOk; simp [hab]⟩
            subst hab
            go_wp2_with fail
            go_ret2
            exact ⟨by rw [HR.out.1, HR.out.2]; rfl, HB2.out⟩
          · have hne : pl t a ≠ pl t b := fun e => hab (HInj.out h1 h2 e)
            have HR : Hid (A1 = follF t.net f (tripOf t a) (tripOf t b) ∧ A2 = true) := ⟨by rw [← HA1.out]; unfold canA canOk; rw [hA, h1, h2]; simp [hab], by rw [← HA2.out]; unfold canOk; rw [hA, h1, h2]; simp [hab]⟩
            have HC := Lib.hid (HFo.out w2 HB2.out HAs.out _ _ hne hla hlb)
            rw [HTa.out h1 hla, HTb.out h2 hlb] at HC
            have hne1 : ¬ ((pl t a : Nat) : Int) = ((pl t b : Nat) : Int) := by omega
            have hbe : (((pl t a : Nat) : Int) == ((pl t b : Nat) : Int)) = false := by rw [beq_eq_false_iff_ne]; exact hne1
            clear HTa HTb HFa HFb HNa HNb HInj HFo HF hab hA HA1 HA2
            generalize pl t a = i at *
            generalize pl t b = k at *
            generalize follF t.net f (tripOf t a) (tripOf t b) = r at *
            go_wp2_with fail
            go_at_call 59
            refine HC.out.mono ?_
            rintro e w3 ⟨rfl, hb3⟩
            go_wp2_with fail
            go_ret2
            exact ⟨by rw [HR.out.1, HR.out.2]; rfl, HB2.out.trans (hb3.mono HB2.out.size)⟩

theorem bothCanFollow (t : TTD) (hf : TTFits t) (hs : TTSmall t) (f : FleetD) (_hf2 : FleetFits f) (hs2 : FleetSmall f) (a : Int) (_wa : (Lit.int .i64 a).wf = true) (b : Int) (_wb : (Lit.int .i64 b).wf = true) : ∃ (r0 r1 : Bool), ∀ v v' w, TTAt w v t → FleetAt w v' f →
    Calls Try.prog 20 #[v, v', .int .i64 a, .int .i64 b] w (fun e w' => e = .returned (.tuple #[.bool r0, .bool r1]) ∧ Below w.heap.size w w') ∧ Calls Try.prog 22 #[v, v', .int .i64 a, .int .i64 b] w (fun e w' => e = .returned (.tuple #[.bool r0, .bool r1]) ∧ Below w.heap.size w w') :=
  ⟨_, _, fun v v' w h h' => ⟨specCan_any v v' t f a b w h hf hs h' hs2, implCan_any v v' t f a b w h hf h' hs2⟩⟩
end Go.Proofs.Ytehpeifaknbcnaa
