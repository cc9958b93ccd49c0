import Derived.Test.YtehpeifaknbcnaaGrpX
import Derived.Test.YtehpeifaknbcnaaInts
import Derived.Test.YtehpeifaknbcnaaCalP
namespace Go.Proofs.Ytehpeifaknbcnaa
open Go.RowKit Go.ChangeShapes Go.WideShapes Go.ChangeAt Go.Deep Go.Joins
set_option linter.unusedVariables false

structure FleetD where
  dead : List (List Int)
  turn : Int
def FleetAt (w : World) (v : Value) (f : FleetD) : Prop := ∃ s, v = .agg #[s, .int .i64 f.turn] ∧ GrpsAt w s f.dead
def FleetFits (f : FleetD) : Prop := GrpsFit f.dead ∧ (Lit.int .i64 f.turn).wf = true
def FleetSmall (f : FleetD) : Prop := GrpsSmall f.dead
def FleetIn (l u : Nat) (w : World) (v : Value) (f : FleetD) : Prop := ∃ s, v = .agg #[s, .int .i64 f.turn] ∧ GrpsIn l u w s f.dead
theorem FleetAt.below {w w' : World} {v : Value} {f : FleetD} (h : FleetAt w v f) {B : Nat} (hB : B = w.heap.size) (hb : Below B w w') : FleetAt w' v f := by
  obtain ⟨s, hv, h1⟩ := h
  exact ⟨s, hv, h1.below hB hb⟩
theorem FleetIn.at {l u : Nat} {w : World} {v : Value} {f : FleetD} (h : FleetIn l u w v f) : FleetAt w v f := by
  obtain ⟨s, hv, h1⟩ := h
  exact ⟨s, hv, h1.at⟩
theorem FleetIn.later {l u : Nat} {w w' : World} {v : Value} {f : FleetD} (h : FleetIn l u w v f) (hb : Below w.heap.size w w') : FleetIn l u w' v f := by
  obtain ⟨s, hv, h1⟩ := h
  exact ⟨s, hv, h1.later hb⟩
theorem FleetIn.out {l u lo hi : Nat} {w w' : World} {v : Value} {f : FleetD} (h : FleetIn l u w v f) (ho : Out lo hi w w') (hs : u ≤ lo ∨ hi ≤ l) : FleetIn l u w' v f := by
  obtain ⟨s, hv, h1⟩ := h
  exact ⟨s, hv, h1.out ho hs⟩
theorem FleetIn.base {l l' u u' : Nat} {w : World} {v : Value} {f : FleetD} (h : FleetIn l u w v f) (hl : l' ≤ l) (hu : u ≤ u') : FleetIn l' u' w v f := by
  obtain ⟨s, hv, h1⟩ := h
  exact ⟨s, hv, h1.base hl hu⟩
theorem Fleet_open {w : World} {v : Value} {f : FleetD} (h : FleetAt w v f) : ∃ a c, v = .agg #[.slice a f.dead.length c, .int .i64 f.turn] := by
  obtain ⟨s, rfl, h1⟩ := h
  obtain ⟨a, c, rfl⟩ := IntSS_open h1
  exact ⟨a, c, rfl⟩
theorem fleet_open {w : World} {v : Value} {f : FleetD} (h : FleetAt w v f) : ∃ a c, v = .agg #[.slice a f.dead.length c, .int .i64 f.turn] ∧ GrpsAt w (.slice a f.dead.length c) f.dead := by
  obtain ⟨s, rfl, h1⟩ := h
  obtain ⟨a, c, rfl⟩ := IntSS_open h1
  exact ⟨a, c, rfl, h1⟩

section
variable {H : Type} {enc : TypeId × Value → H} {P : Program} {w : World} {base : Nat} {spare : Nat → Bool} {held : Bool}
theorem fleet_trod {r : Reach} {b0 : Nat} {t e si : TypeId} {f0 f1 : Field} {v : Value} {d : DataW H} {p : List MemPlace} (hs : P.underlying t = some (.struct #[f0, f1])) (hone : oneCellFields P #[f0, f1] = true) (hC : P.cellsOf t = 2)
    (h0 : P.underlying f0.type = some (.slice e)) (he : P.underlying e = some (.slice si)) (hc : P.cellsOf e = 1) (hi : P.underlying si = some (.int .i64)) (hic : P.cellsOf si = 1) (h1 : P.underlying f1.type = some (.int .i64))
    (hv : Value.okWide P w r b0 t v) (h : DataW.Trod enc P w base spare held t v d p) : ∃ f : FleetD, FleetAt w v f ∧ FleetFits f := by
  obtain ⟨v0, v1, y0, y1, m, rfl, _, _, t0, t1⟩ := open_agg2 hs hone hC hv h
  obtain ⟨xss, hx, hxf⟩ := grps_trod h0 he hc hi hic t0
  obtain ⟨a, ha, _, hw⟩ := DataW.trod_int h1 t1
  simp at ha
  subst ha
  exact ⟨⟨xss, a⟩, ⟨v0, rfl, hx⟩, hxf, hw⟩
end

set_option maxRecDepth 100000 in
theorem fleet_of {H : Type} {enc : TypeId × Value → H} {W : World} {base base' : Nat} {spare : Nat → Bool} {held : Bool} {v : Value} {d : DataW H} {p : List MemPlace}
    (hv : Value.okWide Try.prog W .any base 28 v) (h : DataW.Trod enc Try.prog W base' spare held 28 v d p) : ∃ n, FleetAt W v n ∧ FleetFits n :=
  fleet_trod Try.underlying28 (by kernel_rfl) (by kernel_rfl) Try.underlying26 Try.underlying80 (by kernel_rfl) Try.underlying3 (by kernel_rfl) Try.underlying3 hv h

theorem szFleet_x (v : Value) (f : FleetD) (left : Int) (w : World) (hr : FleetAt w v f) (hf : FleetFits f) (h0 : 0 ≤ left) (h1 : left ≤ 1048576) :
    Calls Try.prog 12 #[v, .int .i64 left] w fun e w' => (∃ r : Int, e = .returned (.int .i64 r) ∧ (r = -1 ∨ (0 ≤ r ∧ r ≤ left ∧ FleetSmall f))) ∧ Below w.heap.size w w' := by
  obtain ⟨a, c, rfl, hg⟩ := fleet_open hr
  have HS := Lib.hid (fun W (hW : Below w.heap.size w W) => szIntSS_x _ f.dead left W (hg.below rfl hW) hf.1 h0 h1)
  clear hg hr hf
  go_enter Try.func12, Try.ntmps12
  go_wp2_with fail
  go_at_call 24
  refine (HS.out _ ((Below.refl _ _).alloc (Nat.le_refl _) _)).mono ?_
  rintro e w1 ⟨⟨r1, rfl, hr1⟩, hb1⟩
  have HB1 : Hid (Below w.heap.size w w1) := ((Below.refl _ _).alloc (Nat.le_refl _) _).trans (hb1.mono (by simp))
  clear hb1
  rcases hr1 with rfl | ⟨hp1, he1⟩
  · go_wp2_with fail
    go_ret
    exact ⟨⟨-1, rfl, .inl rfl⟩, HB1.out⟩
  · have HE1 := Lib.hid he1
    clear he1
    go_wp2_with fail
    go_ret
    exact ⟨⟨r1, rfl, .inr ⟨hp1, HE1.out⟩⟩, HB1.out⟩

set_option maxHeartbeats 1000000 in
theorem toFleet_x (v : Value) (f : FleetD) (w : World) (hr : FleetAt w v f) (hs : FleetSmall f) :
    Calls Try.prog 15 #[v] w fun e w' => ∃ a c, e = .returned (.agg #[.slice a f.dead.length c, .int .i64 f.turn]) ∧ FleetIn w.heap.size w'.heap.size w' (.agg #[.slice a f.dead.length c, .int .i64 f.turn]) f ∧ Below w.heap.size w w' := by
  obtain ⟨a, c, rfl, hg⟩ := fleet_open hr
  have HS := Lib.hid (fun W (hW : Below w.heap.size w W) => toIntSS_x _ f.dead W (hg.below rfl hW) hs)
  clear hg hr hs
  go_enter Try.func15, Try.ntmps15
  go_wp2_with fail
  go_at_call 26
  refine (HS.out _ ?hb).mono ?_
  case hb => exact (((Below.refl _ _).alloc (Nat.le_refl _) _).alloc (by simp) _).alloc (by simp; omega) _
  rintro e w1 ⟨a1, c1, rfl, hin1, hb1⟩
  have HB1 : Hid (Below w.heap.size w w1) := ((((Below.refl _ _).alloc (Nat.le_refl _) _).alloc (by simp) _).alloc (by simp; omega) _).trans (hb1.mono (by simp; omega))
  have hz1 : w.heap.size + 3 ≤ w1.heap.size := by have := hb1.size; simp at this; omega
  have p0 : w1.cell? ⟨w.heap.size + 1 + 1, 0, none⟩ = some (.slice none 0 0) := bkeep hb1 (by go_simp)
  have p1 : w1.cell? ⟨w.heap.size + 1 + 1, 1, none⟩ = some (.int .i64 0) := bkeep hb1 (by go_simp)
  have r0 : w1.cell? ⟨w.heap.size + 1, 0, none⟩ = some (.slice none 0 0) := bkeep hb1 (by go_simp)
  have r1 : w1.cell? ⟨w.heap.size + 1, 1, none⟩ = some (.int .i64 0) := bkeep hb1 (by go_simp)
  have x1 : w1.cell? ⟨w.heap.size, 1, none⟩ = some (.int .i64 f.turn) := bkeep hb1 (by go_simp)
  have f0 : w1.frozen? ⟨w.heap.size + 1 + 1, 0, none⟩ = false := fkeep hb1 (by simp) (by go_simp)
  have f1 : w1.frozen? ⟨w.heap.size + 1 + 1, 1, none⟩ = false := fkeep hb1 (by simp) (by go_simp)
  have f3 : ∀ o, w1.frozen? ⟨w.heap.size + 1, o, none⟩ = false := fun o => fkeep hb1 (by simp) (by go_simp)
  simp only [World.size_alloc] at hin1
  have HI1 := Lib.hid hin1
  clear hin1 hb1
  go_wp2_with fail
  refine bodyPost_ret (v := .agg #[.slice a1 f.dead.length c1, .int .i64 f.turn]) (by simp only [results, Try.results15]; go_simp) rfl ?_
  refine ⟨_, _, rfl, ⟨_, rfl, ?_⟩, ?_⟩
  · refine GrpsIn.base ((((HI1.out.out (Out.setCell (Out.refl (w.heap.size + 1) (w.heap.size + 3) _) (p := ⟨w.heap.size + 1 + 1, 0, none⟩) (by simp) (by simp) _) (by omega)).out (Out.setCell (Out.refl (w.heap.size + 1) (w.heap.size + 3) _) (p := ⟨w.heap.size + 1 + 1, 1, none⟩) (by simp) (by simp) _) (by omega)).out (Out.setCell (Out.refl (w.heap.size + 1) (w.heap.size + 3) _) (p := ⟨w.heap.size + 1, 0, none⟩) (by simp) (by simp) _) (by omega)).out (Out.setCell (Out.refl (w.heap.size + 1) (w.heap.size + 3) _) (p := ⟨w.heap.size + 1, 1, none⟩) (by simp) (by simp) _) (by omega)) (by omega) (by simp [World.setCell])
  · exact ((((HB1.out.setCell (by simp; omega) _).setCell (by simp; omega) _).setCell (by simp) _).setCell (by simp) _)

theorem eqFleet_x (v v' : Value) (f : FleetD) (w : World) (hr : FleetAt w v f) (hr' : FleetAt w v' f) (hs : FleetSmall f) :
    Calls Try.prog 18 #[v, v'] w fun e w' => e = .returned (.bool true) ∧ Below w.heap.size w w' := by
  obtain ⟨a, c, rfl, hg⟩ := fleet_open hr
  obtain ⟨a', c', rfl, hg'⟩ := fleet_open hr'
  have HS := Lib.hid (fun W (hW : Below w.heap.size w W) => eqIntSS_x _ _ f.dead W (hg.below rfl hW) (hg'.below rfl hW) hs)
  clear hg hg' hr hr' hs
  have e0 : (f.turn != f.turn) = false := by simp
  go_enter Try.func18, Try.ntmps18
  go_wp2_with fail
  go_at_call 28
  refine (HS.out _ (((Below.refl _ _).alloc (Nat.le_refl _) _).alloc (by simp) _)).mono ?_
  rintro e w1 ⟨rfl, hb1⟩
  have HB1 : Hid (Below w.heap.size w w1) := (((Below.refl _ _).alloc (Nat.le_refl _) _).alloc (by simp) _).trans (hb1.mono (by simp; omega))
  have p2 : w1.cell? ⟨w.heap.size, 1, none⟩ = some (.int .i64 f.turn) := bkeep hb1 (by go_simp)
  have q2 : w1.cell? ⟨w.heap.size + 1, 1, none⟩ = some (.int .i64 f.turn) := bkeep hb1 (by go_simp)
  clear hb1
  go_wp2_with fail
  go_ret
  exact ⟨rfl, HB1.out⟩

end Go.Proofs.Ytehpeifaknbcnaa
