/-
  CONTRACT of impl.EarliestJourney.
-/
import Derived.Test.YtmcpafflnccfaaaPair
namespace Go.Proofs.Ytmcpafflnccfaaa
open Go.RowKit Go.Maps Jrn
set_option linter.unusedVariables false
set_option linter.unusedSimpArgs false

/-- the first journey, where it is asked of a question that has an answer -/
noncomputable def ejO (t : TTD) (ch frm too at_ : Int) : Option (List LegD) := if pairB t ch frm too at_ then Jrn.bestF (allLegs (rides t)) ch too 4 frm at_ else none
/-- legs in a row of the call's own, and whether there is a journey -/
def LAns (B : Nat) (o : Option (List LegD)) (e : Ending) (w' : World) : Prop := ∃ v', e = .returned (.tuple #[v', .bool o.isSome]) ∧ w'.ownsRow B 62 5 v' (o.getD []).length (legC (o.getD []))
theorem legs_new (w : World) (B : Nat) (hB : B ≤ w.heap.size) : (w.alloc (.cells #[] 62)).ownsRow B 62 5 (.slice (some ⟨w.heap.size, 0, none⟩) 0 0) 0 (legC []) := by
  have h := World.ownsRow_lit (base := B) (e := 62) (size := 5) w #[] 0 hB (by decide) (by simp)
  simpa [legC] using h

set_option maxRecDepth 100000 in
set_option maxHeartbeats 4000000 in
theorem implEJ_any (v : Value) (t : TTD) (ch frm too at_ : Int) (w : World) (hr : TTAt w v t) (hf : TTFits t) (hs : TTSmall t) :
    Calls Try.prog 14 #[v, .int .i64 ch, .int .i64 frm, .int .i64 too, .int .i64 at_] w fun e w' => LAns w.heap.size (ejO t ch frm too at_) e w' ∧ Below w.heap.size w w' := by
  have HF := Lib.hid (fun W (hW : Below w.heap.size w W) => canTravelBetween_any v t ch frm too at_ W (hr.below rfl hW) hf hs)
  have HLB := Lib.hid (fun (hg : TTGood t) W (hW : Below w.heap.size w W) => legsByStop_any v t W (hr.below rfl hW) hg)
  obtain ⟨a, c, a', c', b, d, rfl, -, -⟩ := tt_open hr
  clear hr hf hs
  cases hp : pairB t ch frm too at_ with
  | false =>
    rw [hp] at HF
    have HR : Hid (ejO t ch frm too at_ = none) := by show _ = _; unfold ejO; rw [hp]; rfl
    rw [HR.out]
    clear hp HLB
    go_enter Try.func14, Try.ntmps14
    go_wp2_with fail
    go_at_call 55
    refine (HF.out _ ((Below.refl _ _).alloc (Nat.le_refl _) _)).mono ?_
    rintro e w1 ⟨rfl, hb⟩
    have HB1 : Hid (Below w.heap.size w w1) := ((Below.refl _ _).alloc (Nat.le_refl _) _).trans (hb.mono (by simp))
    have z0 : w1.cell? ⟨w.heap.size, 0, none⟩ = some (.slice a t.net.stops.length c) := bkeep hb (by go_simp)
    have z1 : w1.cell? ⟨w.heap.size, 1, none⟩ = some (.slice a' t.net.lines.length c') := bkeep hb (by go_simp)
    have z2 : w1.cell? ⟨w.heap.size, 2, none⟩ = some (.slice b t.trips.length d) := bkeep hb (by go_simp)
    clear hb
    clear z0 z1 z2
    go_wp2_with fail
    go_ret2
    exact ⟨⟨.slice (some ⟨w1.heap.size, 0, none⟩) 0 0, rfl, legs_new w1 _ HB1.out.size⟩, HB1.out.alloc HB1.out.size _⟩
  | true =>
    rw [hp] at HF
    obtain ⟨⟨hg, hch, hst, hat⟩, hto, hne⟩ := pairB_iff hp
    have HR : Hid (ejO t ch frm too at_ = Jrn.bestF (allLegs (rides t)) ch too 4 frm at_) := by show _ = _; unfold ejO; rw [hp]; rfl
    rw [HR.out]
    have HL := Lib.hid (HLB.out hg)
    have HOk := Lib.hid (legsOk_of hg hch.1 hch.2 too)
    have h8 := hg.1.1.2.1
    have HWf := Lib.hid (wfI (a := frm) hst.1 (by omega))
    have HWt := Lib.hid (wfI (a := at_) hat.1 (by have := hat.2; omega))
    have HJT := Lib.hid (fun W (lo bL : Nat) (No : Nat → Prop) (h : LegMap lo bL No W (allLegs (rides t))) => journeysTo_any (ch := ch) (too := too) W h)
    clear hp HLB hg hch hst hat hto hne HR
    generalize allLegs (rides t) = L at *
    have HFind := Lib.hid (fun (b bL : Nat) W (hE : JEnv b bL L ch too 0 W) => find_any HOk.out 4 (Nat.le_refl _) W frm at_ 0 hE HWf.out HWt.out (by decide))
    have hnen := neNil
    obtain ⟨bj, Hbj⟩ : ∃ bj, Hid (Jrn.bestF L ch too 4 frm at_ = bj) := ⟨_, rfl⟩
    rw [Hbj.out]
    unfold fnFind at HJT
    unfold fnFind bV at HFind
    go_enter Try.func14, Try.ntmps14
    go_wp2_with fail
    go_at_call 55
    refine (HF.out _ ((Below.refl _ _).alloc (Nat.le_refl _) _)).mono ?_
    rintro e w1 ⟨rfl, hb⟩
    have HB1 : Hid (Below w.heap.size w w1) := ((Below.refl _ _).alloc (Nat.le_refl _) _).trans (hb.mono (by simp))
    have z0 : w1.cell? ⟨w.heap.size, 0, none⟩ = some (.slice a t.net.stops.length c) := bkeep hb (by go_simp)
    have z1 : w1.cell? ⟨w.heap.size, 1, none⟩ = some (.slice a' t.net.lines.length c') := bkeep hb (by go_simp)
    have z2 : w1.cell? ⟨w.heap.size, 2, none⟩ = some (.slice b t.trips.length d) := bkeep hb (by go_simp)
    clear hb
    go_wp2_with fail
    go_at_call 57
    refine (HL.out _ HB1.out).mono ?_
    rintro e w2 ⟨⟨rfl, hlm⟩, hb⟩
    have HB2 : Hid (Below w.heap.size w w2) := HB1.out.trans (hb.mono HB1.out.size)
    have HJ2 := Lib.hid (HJT.out _ _ _ _ hlm)
    clear hb hlm z0 z1 z2
    go_wp2_with fail
    go_at_call 56
    refine HJ2.out.mono ?_
    rintro e w3 ⟨rfl, hE3, hb⟩
    have HB3 : Hid (Below w.heap.size w w3) := HB2.out.trans (hb.mono HB2.out.size)
    have hz2 := HB2.out.size
    have HFd := Lib.hid (HFind.out _ _ w3 hE3)
    have hcF := hE3.cF
    unfold fnFind at hcF
    clear hb hE3
    go_wp2_with fail
    go_at_call 100
    refine HFd.out.mono ?_
    rintro e w5 ⟨vJ, rfl, hj, -, hg5⟩
    have HB5 : Hid (Below w.heap.size w w5) := HB3.out.trans (below_gr hg5 (by omega) HB3.out.size)
    clear hg5
    rw [Hbj.out] at hj
    cases bj with
    | none =>
      have hv : vJ = .slice none 0 0 := hj
      subst hv
      clear hj
      go_wp2_with fail
      go_ret2
      exact ⟨⟨.slice none 0 0, rfl, by simpa [legC] using World.ownsRow_nil _ _ _ _⟩, HB5.out⟩
    | some cj =>
      obtain ⟨⟨gj, capj, rfl⟩, how⟩ := hj
      have HOw : Hid (w5.ownsRow w.heap.size 62 5 (.slice (some ⟨gj, 0, none⟩) cj.length capj) cj.length (legC cj)) := own_base how (by omega)
      clear how
      go_wp2_with fail
      go_ret2
      exact ⟨⟨_, rfl, HOw.out⟩, HB5.out⟩
end Go.Proofs.Ytmcpafflnccfaaa
