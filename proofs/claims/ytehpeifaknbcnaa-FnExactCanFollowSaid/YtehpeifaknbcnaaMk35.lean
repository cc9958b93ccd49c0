/-
  JOINED TEXTS, each under its own namespace line: BlksP, Shelf.
-/
import Derived.Test.YtehpeifaknbcnaaMk33
import Derived.Test.YtehpeifaknbcnaaTripFind
import Derived.Shelf.Slices.Turned
import Derived.Ground.Names2Prog
import Derived.Shelf.Slices.Clone
import Derived.Test.YtehpeifaknbcnaaProg
namespace Go.Proofs.Ytehpeifaknbcnaa
set_option linter.unusedVariables false

def pl (t : TTD) (id : Int) : Nat := placeOf id t.trips
def tripOf (t : TTD) (id : Int) : TripD := t.trips.getD (pl t id) ⟨0, 0, 0⟩
def foundT (t : TTD) (id : Int) : Bool := foundB id t.trips

def IdOk (t : TTD) (f : FleetD) (b : List Int) (k : Nat) (h : k < b.length) : Prop := foundT t b[k] = true ∧ ∀ j (hj : j + 1 = k), follF t.net f (tripOf t (b[j]'(by omega))) (tripOf t b[k]) = true
def BlkTo (t : TTD) (f : FleetD) (b : List Int) (k : Nat) : Prop := ∀ j (h : j < b.length), j < k → IdOk t f b j h
def BlkOk (t : TTD) (f : FleetD) (b : List Int) : Prop := b ≠ [] ∧ BlkTo t f b b.length
noncomputable instance (t : TTD) (f : FleetD) (b : List Int) : Decidable (BlkOk t f b) := Classical.propDecidable _
def hd (b : List Int) : Int := b.headD 0

def allT (t : TTD) (bs : List (List Int)) : List Nat := bs.flatten.map (pl t)
def OneOk (t : TTD) (f : FleetD) (bs : List (List Int)) (i : Nat) (h : i < bs.length) : Prop := BlkOk t f bs[i] ∧ ∀ j (hj : j + 1 = i), hd (bs[j]'(by omega)) < hd bs[i]
def BlksTo (t : TTD) (f : FleetD) (bs : List (List Int)) (i : Nat) : Prop := ∀ j (h : j < bs.length), j < i → OneOk t f bs j h
def BlksGood (t : TTD) (f : FleetD) (bs : List (List Int)) : Prop := BlksTo t f bs bs.length ∧ (allT t bs).Nodup ∧ (allT t bs).length = t.trips.length
noncomputable instance (t : TTD) (f : FleetD) (bs : List (List Int)) : Decidable (BlksGood t f bs) := Classical.propDecidable _
theorem found_lt {t : TTD} {id : Int} (h : foundT t id = true) : pl t id < t.trips.length := by
  unfold foundT foundB at h
  unfold pl
  by_cases c : placeOf id t.trips < t.trips.length
  · exact c
  · rw [List.getElem?_eq_none (by omega)] at h; simp at h
theorem found_id {t : TTD} {id : Int} (h : foundT t id = true) : (t.trips[pl t id]'(found_lt h)).id = id := by
  have hl := found_lt h
  unfold foundT at h
  rw [foundB_at hl] at h
  exact of_decide_eq_true h
theorem tripOf_at {t : TTD} {id : Int} (h : foundT t id = true) : tripOf t id = t.trips[pl t id]'(found_lt h) := by
  have hl := found_lt h
  unfold tripOf
  simp [hl]
theorem pl_inj {t : TTD} {a b : Int} (ha : foundT t a = true) (hb : foundT t b = true) (h : pl t a = pl t b) : a = b := by
  have h1 := tripOf_at ha
  have h2 := tripOf_at hb
  have e : tripOf t a = tripOf t b := by unfold tripOf; rw [h]
  rw [← found_id ha, ← found_id hb, ← h1, ← h2, e]

end Go.Proofs.Ytehpeifaknbcnaa

namespace Go.Proofs
open Go.Shelf
def Try.lays113_ren : Go.Shelf.Ren := ⟨fun | 113 => 53 | n => n, fun | 28 => 80 | 3 => 3 | 4 => 4 | 9 => 9 | 20 => 20 | 0 => 0 | n => n, fun | n => n⟩
theorem Try.lays113 : Go.Proofs.Lays.n113 Try.prog Try.lays113_ren := {
  mixed := by kernel_rfl
  f113 := Try.func53.trans (congrArg some (by kernel_rfl))
  t0 := Try.underlying0
  a0 := Try.isAgg0
  z0 := Try.sizeOf0
  v0 := Try.zeroValue0
  t3 := Try.underlying3
  a3 := Try.isAgg3
  z3 := Try.sizeOf3
  v3 := Try.zeroValue3
  t4 := Try.underlying4
  a4 := Try.isAgg4
  z4 := Try.sizeOf4
  v4 := Try.zeroValue4
  t9 := Try.underlying9
  a9 := Try.isAgg9
  z9 := Try.sizeOf9
  v9 := Try.zeroValue9
  t20 := Try.underlying20
  a20 := Try.isAgg20
  z20 := Try.sizeOf20
  v20 := Try.zeroValue20
  t28 := Try.underlying80
  a28 := Try.isAgg80
  z28 := Try.sizeOf80
  v28 := Try.zeroValue80 }
open Go.Lib in

theorem Try.slices_Max_int (b off n c : Nat) (zs : List Int) (w : World) (hn : 0 < n) (hz : n ≤ zs.length) (hbig : n ≤ 9223372036854775807) (hc : ∀ j, j < zs.length → w.cell? ⟨b, off + j, none⟩ = some (.int .i64 (zs.getD j 0))) :
    Calls Try.prog 53 #[.slice (some ⟨b, off, none⟩) n c] w fun e w' => e = .returned (.int .i64 (Lib.maxOf (zs.take n))) ∧ w' = w := Any.slices_Max_int Try.lays113 b off n c zs w hn hz hbig hc
def Try.lays114_ren : Go.Shelf.Ren := ⟨fun | 114 => 52 | n => n, fun | 28 => 80 | 3 => 3 | 4 => 4 | 9 => 9 | 20 => 20 | 0 => 0 | n => n, fun | n => n⟩
theorem Try.lays114 : Go.Proofs.Lays.n114 Try.prog Try.lays114_ren := {
  mixed := by kernel_rfl
  f114 := Try.func52.trans (congrArg some (by kernel_rfl))
  t0 := Try.underlying0
  a0 := Try.isAgg0
  z0 := Try.sizeOf0
  v0 := Try.zeroValue0
  t3 := Try.underlying3
  a3 := Try.isAgg3
  z3 := Try.sizeOf3
  v3 := Try.zeroValue3
  t4 := Try.underlying4
  a4 := Try.isAgg4
  z4 := Try.sizeOf4
  v4 := Try.zeroValue4
  t9 := Try.underlying9
  a9 := Try.isAgg9
  z9 := Try.sizeOf9
  v9 := Try.zeroValue9
  t20 := Try.underlying20
  a20 := Try.isAgg20
  z20 := Try.sizeOf20
  v20 := Try.zeroValue20
  t28 := Try.underlying80
  a28 := Try.isAgg80
  z28 := Try.sizeOf80
  v28 := Try.zeroValue80 }
open Go.Lib in

theorem Try.slices_Min_int (b off n c : Nat) (zs : List Int) (w : World) (hn : 0 < n) (hz : n ≤ zs.length) (hbig : n ≤ 9223372036854775807) (hc : ∀ j, j < zs.length → w.cell? ⟨b, off + j, none⟩ = some (.int .i64 (zs.getD j 0))) :
    Calls Try.prog 52 #[.slice (some ⟨b, off, none⟩) n c] w fun e w' => e = .returned (.int .i64 (Lib.minOf (zs.take n))) ∧ w' = w := Any.slices_Min_int Try.lays114 b off n c zs w hn hz hbig hc
end Go.Proofs
