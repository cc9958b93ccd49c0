/-
  JOINED TEXTS, each under its own namespace line: CalP, Fleet.
-/
import Derived.WalkKit
import Derived.Test.YtehpeifaknbcnaaGrpX
import Derived.Test.YtehpeifaknbcnaaInts
namespace Go.Proofs.Ytehpeifaknbcnaa

structure CalD where
  frm : Int
  too : Int
  wd : Int
  added : List Int
  removed : List Int

def wdB (wd day : Int) : Bool := decide ((wd / 2 ^ (day % 7).toNat) % 2 = 1)

def RiseTo (l : List Int) (lo hi : Int) (k : Nat) : Prop := ∀ j (h : j < l.length), j < k → (lo ≤ l[j] ∧ l[j] ≤ hi) ∧ (0 < j → l[j - 1]'(by omega) < l[j])
def Rise (l : List Int) (lo hi : Int) : Prop := RiseTo l lo hi l.length
instance (l : List Int) (lo hi : Int) : Decidable (Rise l lo hi) := by
  unfold Rise RiseTo
  have : (∀ j (h : j < l.length), j < l.length → (lo ≤ l[j] ∧ l[j] ≤ hi) ∧ (0 < j → l[j - 1]'(by omega) < l[j])) ↔ (∀ j (h : j < l.length), (lo ≤ l[j] ∧ l[j] ≤ hi) ∧ (0 < j → l[j - 1]'(by omega) < l[j])) := ⟨fun g j h => g j h h, fun g j h _ => g j h⟩
  rw [this]
  exact Nat.decidableBallLT _ _
def CalNum (c : CalD) : Prop := 0 ≤ c.frm ∧ c.frm ≤ c.too ∧ c.too ≤ 3650 ∧ 0 ≤ c.wd ∧ c.wd ≤ 127
def CalGood (c : CalD) : Prop := CalNum c ∧ c.added.length ≤ 8 ∧ c.removed.length ≤ 8 ∧ Rise c.added c.frm c.too ∧ Rise c.removed c.frm c.too ∧ (∀ d ∈ c.added, wdB c.wd d = false) ∧ ∀ d ∈ c.removed, wdB c.wd d = true
instance (c : CalD) : Decidable (CalNum c) := by unfold CalNum; infer_instance
instance (c : CalD) : Decidable (CalGood c) := by unfold CalGood; infer_instance
def Reg (c : CalD) (d : Int) : Prop := (c.frm ≤ d ∧ d ≤ c.too) ∧ wdB c.wd d = true

def Runs (c : CalD) (d : Int) : Prop := (c.frm ≤ d ∧ d ≤ c.too) ∧ if wdB c.wd d = true then d ∉ c.removed else d ∈ c.added
instance (c : CalD) (d : Int) : Decidable (Reg c d) := by unfold Reg; infer_instance
instance (c : CalD) (d : Int) : Decidable (Runs c d) := by unfold Runs; infer_instance
end Go.Proofs.Ytehpeifaknbcnaa

namespace Go.Proofs.Ytehpeifaknbcnaa
open Go.RowKit Go.ChangeShapes Go.WideShapes Go.ChangeAt Go.Deep Go.Joins
set_option linter.unusedVariables false

structure FleetD where
  dead : List (List Int)
  turn : Int
def FleetAt (w : World) (v : Value) (f : FleetD) : Prop := ∃ s, v = .agg #[s, .int .i64 f.turn] ∧ GrpsAt w s f.dead
def FleetFits (f : FleetD) : Prop := GrpsFit f.dead ∧ (Lit.int .i64 f.turn).wf = true
def FleetSmall (f : FleetD) : Prop := GrpsSmall f.dead
def FleetIn (l u : Nat) (w : World) (v : Value) (f : FleetD) : Prop := ∃ s, v = .agg #[s, .int .i64 f.turn] ∧ GrpsIn l u w s f.dead
def FleetMk (k : Int) (w : World) (v : Value) (f : FleetD) : Prop := ∃ s, v = .agg #[s, .int .i64 f.turn] ∧ GrpsMk k w s f.dead
theorem FleetAt.below {w w' : World} {v : Value} {f : FleetD} (h : FleetAt w v f) {B : Nat} (hB : B = w.heap.size) (hb : Below B w w') : FleetAt w' v f := by
  obtain ⟨s, hv, h1⟩ := h
  exact ⟨s, hv, h1.below hB hb⟩
theorem FleetIn.at {l u : Nat} {w : World} {v : Value} {f : FleetD} (h : FleetIn l u w v f) : FleetAt w v f := by
  obtain ⟨s, hv, h1⟩ := h
  exact ⟨s, hv, h1.at⟩
theorem FleetIn.later {l u : Nat} {w w' : World} {v : Value} {f : FleetD} (h : FleetIn l u w v f) (hb : Below w.heap.size w w') : FleetIn l u w' v f := by
  obtain ⟨s, hv, h1⟩ := h
  exact ⟨s, hv, h1.later hb⟩
theorem FleetIn.out {l u lo hi : Nat} {w w' : World} {v : Value} {f : FleetD} (h : FleetIn l u w v f) (ho : Out lo hi w w') (hs : u ≤ lo ∨ hi ≤ l) : FleetIn l u w' v f := by
  obtain ⟨s, hv, h1⟩ := h
  exact ⟨s, hv, h1.out ho hs⟩
theorem FleetIn.base {l l' u u' : Nat} {w : World} {v : Value} {f : FleetD} (h : FleetIn l u w v f) (hl : l' ≤ l) (hu : u ≤ u') : FleetIn l' u' w v f := by
  obtain ⟨s, hv, h1⟩ := h
  exact ⟨s, hv, h1.base hl hu⟩
theorem FleetMk.later {k : Int} {w w' : World} {v : Value} {f : FleetD} (h : FleetMk k w v f) (hb : Below w.heap.size w w') : FleetMk k w' v f := by
  obtain ⟨s, hv, h1⟩ := h
  exact ⟨s, hv, h1.later hb⟩
theorem Fleet_open {w : World} {v : Value} {f : FleetD} (h : FleetAt w v f) : ∃ a c, v = .agg #[.slice a f.dead.length c, .int .i64 f.turn] := by
  obtain ⟨s, rfl, h1⟩ := h
  obtain ⟨a, c, rfl⟩ := IntSS_open h1
  exact ⟨a, c, rfl⟩
theorem fleet_open {w : World} {v : Value} {f : FleetD} (h : FleetAt w v f) : ∃ a c, v = .agg #[.slice a f.dead.length c, .int .i64 f.turn] ∧ GrpsAt w (.slice a f.dead.length c) f.dead := by
  obtain ⟨s, rfl, h1⟩ := h
  obtain ⟨a, c, rfl⟩ := IntSS_open h1
  exact ⟨a, c, rfl, h1⟩

section
variable {H : Type} {enc : TypeId × Value → H} {P : Program} {w : World} {base : Nat} {spare : Nat → Bool} {held : Bool}
theorem fleet_trod {r : Reach} {b0 : Nat} {t e si : TypeId} {f0 f1 : Field} {v : Value} {d : DataW H} {p : List MemPlace} (hs : P.underlying t = some (.struct #[f0, f1])) (hone : oneCellFields P #[f0, f1] = true) (hC : P.cellsOf t = 2)
    (h0 : P.underlying f0.type = some (.slice e)) (he : P.underlying e = some (.slice si)) (hc : P.cellsOf e = 1) (hi : P.underlying si = some (.int .i64)) (hic : P.cellsOf si = 1) (h1 : P.underlying f1.type = some (.int .i64))
    (hv : Value.okWide P w r b0 t v) (h : DataW.Trod enc P w base spare held t v d p) : ∃ f : FleetD, FleetAt w v f ∧ FleetFits f := by
  obtain ⟨v0, v1, y0, y1, m, rfl, _, _, t0, t1⟩ := open_agg2 hs hone hC hv h
  obtain ⟨xss, hx, hxf⟩ := grps_trod h0 he hc hi hic t0
  obtain ⟨a, ha, _, hw⟩ := DataW.trod_int h1 t1
  simp at ha
  subst ha
  exact ⟨⟨xss, a⟩, ⟨v0, rfl, hx⟩, hxf, hw⟩
end

set_option maxRecDepth 100000 in
theorem fleet_of {H : Type} {enc : TypeId × Value → H} {W : World} {base base' : Nat} {spare : Nat → Bool} {held : Bool} {v : Value} {d : DataW H} {p : List MemPlace}
    (hv : Value.okWide Try.prog W .any base 28 v) (h : DataW.Trod enc Try.prog W base' spare held 28 v d p) : ∃ n, FleetAt W v n ∧ FleetFits n :=
  fleet_trod Try.underlying28 (by kernel_rfl) (by kernel_rfl) Try.underlying26 Try.underlying80 (by kernel_rfl) Try.underlying3 (by kernel_rfl) Try.underlying3 hv h

theorem szFleet_x (v : Value) (f : FleetD) (left : Int) (w : World) (hr : FleetAt w v f) (hf : FleetFits f) (h0 : 0 ≤ left) (h1 : left ≤ 1048576) :
    Calls Try.prog 12 #[v, .int .i64 left] w fun e w' => (∃ r : Int, e = .returned (.int .i64 r) ∧ (r = -1 ∨ (0 ≤ r ∧ r ≤ left ∧ FleetSmall f))) ∧ Below w.heap.size w w' := by
  obtain ⟨a, c, rfl, hg⟩ := fleet_open hr
  have HS := Lib.hid (fun W (hW : Below w.heap.size w W) => szIntSS_x _ f.dead left W (hg.below rfl hW) hf.1 h0 h1)
  clear hg hr hf
  go_enter Try.func12, Try.ntmps12
  go_wp2_with fail
  go_at_call 24
  refine (HS.out _ ((Below.refl _ _).alloc (Nat.le_refl _) _)).mono ?_
  rintro e w1 ⟨⟨r1, rfl, hr1⟩, hb1⟩
  have HB1 : Hid (Below w.heap.size w w1) := ((Below.refl _ _).alloc (Nat.le_refl _) _).trans (hb1.mono (by simp))
  clear hb1
  rcases hr1 with rfl | ⟨hp1, he1⟩
  · go_wp2_with fail
    go_ret
    exact ⟨⟨-1, rfl, .inl rfl⟩, HB1.out⟩
  · have HE1 := Lib.hid he1
    clear he1
    go_wp2_with fail
    go_ret
    exact ⟨⟨r1, rfl, .inr ⟨hp1, HE1.out⟩⟩, HB1.out⟩

set_option maxHeartbeats 1000000 in
theorem toFleet_x (v : Value) (f : FleetD) (w : World) (hr : FleetAt w v f) (hs : FleetSmall f) :
    Calls Try.prog 15 #[v] w fun e w' => ∃ a c, e = .returned (.agg #[.slice a f.dead.length c, .int .i64 f.turn]) ∧ FleetIn w.heap.size w'.heap.size w' (.agg #[.slice a f.dead.length c, .int .i64 f.turn]) f ∧ Below w.heap.size w w' := by
  obtain ⟨a, c, rfl, hg⟩ := fleet_open hr
  have HS := Lib.hid (fun W (hW : Below w.heap.size w W) => toIntSS_x _ f.dead W (hg.below rfl hW) hs)
  clear hg hr hs
  go_enter Try.func15, Try.ntmps15
  go_wp2_with fail
  go_at_call 26
  refine (HS.out _ ?hb).mono ?_
  case hb => exact (((Below.refl _ _).alloc (Nat.le_refl _) _).alloc (by simp) _).alloc (by simp; omega) _
  rintro e w1 ⟨a1, c1, rfl, hin1, hb1⟩
  have HB1 : Hid (Below w.heap.size w w1) := ((((Below.refl _ _).alloc (Nat.le_refl _) _).alloc (by simp) _).alloc (by simp; omega) _).trans (hb1.mono (by simp; omega))
  have hz1 : w.heap.size + 3 ≤ w1.heap.size := by have := hb1.size; simp at this; omega
  have p0 : w1.cell? ⟨w.heap.size + 1 + 1, 0, none⟩ = some (.slice none 0 0) := bkeep hb1 (by go_simp)
  have p1 : w1.cell? ⟨w.heap.size + 1 + 1, 1, none⟩ = some (.int .i64 0) := bkeep hb1 (by go_simp)
  have r0 : w1.cell? ⟨w.heap.size + 1, 0, none⟩ = some (.slice none 0 0) := bkeep hb1 (by go_simp)
  have r1 : w1.cell? ⟨w.heap.size + 1, 1, none⟩ = some (.int .i64 0) := bkeep hb1 (by go_simp)
  have x1 : w1.cell? ⟨w.heap.size, 1, none⟩ = some (.int .i64 f.turn) := bkeep hb1 (by go_simp)
  have f0 : w1.frozen? ⟨w.heap.size + 1 + 1, 0, none⟩ = false := fkeep hb1 (by simp) (by go_simp)
  have f1 : w1.frozen? ⟨w.heap.size + 1 + 1, 1, none⟩ = false := fkeep hb1 (by simp) (by go_simp)
  have f3 : ∀ o, w1.frozen? ⟨w.heap.size + 1, o, none⟩ = false := fun o => fkeep hb1 (by simp) (by go_simp)
  simp only [World.size_alloc] at hin1
  have HI1 := Lib.hid hin1
  clear hin1 hb1
  go_wp2_with fail
  refine bodyPost_ret (v := .agg #[.slice a1 f.dead.length c1, .int .i64 f.turn]) (by simp only [results, Try.results15]; go_simp) rfl ?_
  refine ⟨_, _, rfl, ⟨_, rfl, ?_⟩, ?_⟩
  · refine GrpsIn.base ((((HI1.out.out (Out.setCell (Out.refl (w.heap.size + 1) (w.heap.size + 3) _) (p := ⟨w.heap.size + 1 + 1, 0, none⟩) (by simp) (by simp) _) (by omega)).out (Out.setCell (Out.refl (w.heap.size + 1) (w.heap.size + 3) _) (p := ⟨w.heap.size + 1 + 1, 1, none⟩) (by simp) (by simp) _) (by omega)).out (Out.setCell (Out.refl (w.heap.size + 1) (w.heap.size + 3) _) (p := ⟨w.heap.size + 1, 0, none⟩) (by simp) (by simp) _) (by omega)).out (Out.setCell (Out.refl (w.heap.size + 1) (w.heap.size + 3) _) (p := ⟨w.heap.size + 1, 1, none⟩) (by simp) (by simp) _) (by omega)) (by omega) (by simp [World.setCell])
  · exact ((((HB1.out.setCell (by simp; omega) _).setCell (by simp; omega) _).setCell (by simp) _).setCell (by simp) _)

theorem eqFleet_x (v v' : Value) (f : FleetD) (w : World) (hr : FleetAt w v f) (hr' : FleetAt w v' f) (hs : FleetSmall f) :
    Calls Try.prog 18 #[v, v'] w fun e w' => e = .returned (.bool true) ∧ Below w.heap.size w w' := by
  obtain ⟨a, c, rfl, hg⟩ := fleet_open hr
  obtain ⟨a', c', rfl, hg'⟩ := fleet_open hr'
  have HS := Lib.hid (fun W (hW : Below w.heap.size w W) => eqIntSS_x _ _ f.dead W (hg.below rfl hW) (hg'.below rfl hW) hs)
  clear hg hg' hr hr' hs
  have e0 : (f.turn != f.turn) = false := by simp
  go_enter Try.func18, Try.ntmps18
  go_wp2_with fail
  go_at_call 28
  refine (HS.out _ (((Below.refl _ _).alloc (Nat.le_refl _) _).alloc (by simp) _)).mono ?_
  rintro e w1 ⟨rfl, hb1⟩
  have HB1 : Hid (Below w.heap.size w w1) := (((Below.refl _ _).alloc (Nat.le_refl _) _).alloc (by simp) _).trans (hb1.mono (by simp; omega))
  have p2 : w1.cell? ⟨w.heap.size, 1, none⟩ = some (.int .i64 f.turn) := bkeep hb1 (by go_simp)
  have q2 : w1.cell? ⟨w.heap.size + 1, 1, none⟩ = some (.int .i64 f.turn) := bkeep hb1 (by go_simp)
  clear hb1
  go_wp2_with fail
  go_ret
  exact ⟨rfl, HB1.out⟩

set_option maxHeartbeats 1000000 in
theorem markFleet_x (v : Value) (f : FleetD) (k : Int) (l u : Nat) (w : World) (hr : FleetIn l u w v f) (hl : l ≤ w.heap.size) (hu : u ≤ w.heap.size) (hs : FleetSmall f) (hk0 : 0 ≤ k) (hk : k ≤ 536870912) :
    Calls Try.prog 37 #[v, .int .i64 k] w fun e w' => e = .returned (.int .i64 (k + (totL f.dead : Int))) ∧ FleetMk k w' v f ∧ Out l u w w' := by
  obtain ⟨s, rfl, hg⟩ := hr
  obtain ⟨a, c, rfl⟩ := IntSS_open hg.at
  have HG := Lib.hid hg
  have hsz := hs.2
  have HS := Lib.hid (show GrpsSmall f.dead from hs)
  clear hg hs
  have HB0 : Hid (Below w.heap.size w (w.alloc (.cells #[.slice a f.dead.length c, .int .i64 f.turn] 36))) := (Below.refl _ _).alloc (Nat.le_refl _) _
  go_enter Try.func37, Try.ntmps37
  go_wp2_with fail
  go_at_call 38
  refine (markIntSS_x _ f.dead k l u _ (HG.out.later HB0.out) (by simp; omega) (by simp; omega) HS.out hk0 (by omega)).mono ?_
  rintro e w1 ⟨rfl, hm1, ho1⟩
  have HM := Lib.hid hm1
  have HO := Lib.hid ho1
  clear hm1 ho1
  go_wp2_with fail
  go_ret
  exact ⟨rfl, ⟨_, rfl, HM.out⟩, (Out.of_below HB0.out hl).trans HO.out⟩

end Go.Proofs.Ytehpeifaknbcnaa
