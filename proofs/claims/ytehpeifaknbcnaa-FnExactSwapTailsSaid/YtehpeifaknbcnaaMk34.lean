/-
  JOINED TEXTS, each under its own namespace line: BlksP, Shelf.
-/
import Derived.Test.YtehpeifaknbcnaaMk32
import Derived.Test.YtehpeifaknbcnaaTripFind
import Derived.Shelf.Slices.Turned
import Derived.Ground.Names2Prog
import Derived.Shelf.Slices.Clone
import Derived.Test.YtehpeifaknbcnaaProg
namespace Go.Proofs.Ytehpeifaknbcnaa
set_option linter.unusedVariables false

def pl (t : TTD) (id : Int) : Nat := placeOf id t.trips
def tripOf (t : TTD) (id : Int) : TripD := t.trips.getD (pl t id) ⟨0, 0, 0⟩
def foundT (t : TTD) (id : Int) : Bool := foundB id t.trips

def IdOk (t : TTD) (f : FleetD) (b : List Int) (k : Nat) (h : k < b.length) : Prop := foundT t b[k] = true ∧ ∀ j (hj : j + 1 = k), follF t.net f (tripOf t (b[j]'(by omega))) (tripOf t b[k]) = true
def BlkTo (t : TTD) (f : FleetD) (b : List Int) (k : Nat) : Prop := ∀ j (h : j < b.length), j < k → IdOk t f b j h
def BlkOk (t : TTD) (f : FleetD) (b : List Int) : Prop := b ≠ [] ∧ BlkTo t f b b.length
noncomputable instance (t : TTD) (f : FleetD) (b : List Int) : Decidable (BlkOk t f b) := Classical.propDecidable _
noncomputable def blkB (t : TTD) (f : FleetD) (b : List Int) : Bool := decide (BlkOk t f b)
theorem blkB_yes {t : TTD} {f : FleetD} {b : List Int} (h : BlkOk t f b) : blkB t f b = true := decide_eq_true h
theorem blkB_no {t : TTD} {f : FleetD} {b : List Int} (h : ¬ BlkOk t f b) : blkB t f b = false := decide_eq_false h
theorem blkTo_succ {t : TTD} {f : FleetD} {b : List Int} {k : Nat} (hk : k < b.length) (h : BlkTo t f b k) (h1 : IdOk t f b k hk) : BlkTo t f b (k + 1) := by
  intro j hj hjk
  by_cases e : j = k
  · subst e; exact h1
  · exact h j hj (by omega)

def hd (b : List Int) : Int := b.headD 0

def seenT (t : TTD) (bs : List (List Int)) (i k : Nat) : List Nat := ((bs.take i).flatten ++ (bs.getD i []).take k).map (pl t)
def allT (t : TTD) (bs : List (List Int)) : List Nat := bs.flatten.map (pl t)
def OneOk (t : TTD) (f : FleetD) (bs : List (List Int)) (i : Nat) (h : i < bs.length) : Prop := BlkOk t f bs[i] ∧ ∀ j (hj : j + 1 = i), hd (bs[j]'(by omega)) < hd bs[i]
def BlksTo (t : TTD) (f : FleetD) (bs : List (List Int)) (i : Nat) : Prop := ∀ j (h : j < bs.length), j < i → OneOk t f bs j h
def BlksGood (t : TTD) (f : FleetD) (bs : List (List Int)) : Prop := BlksTo t f bs bs.length ∧ (allT t bs).Nodup ∧ (allT t bs).length = t.trips.length
noncomputable instance (t : TTD) (f : FleetD) (bs : List (List Int)) : Decidable (BlksGood t f bs) := Classical.propDecidable _
noncomputable def blksB (t : TTD) (f : FleetD) (bs : List (List Int)) : Bool := decide (BlksGood t f bs)
theorem blksB_yes {t : TTD} {f : FleetD} {bs : List (List Int)} (h : BlksGood t f bs) : blksB t f bs = true := decide_eq_true h
theorem blksB_no {t : TTD} {f : FleetD} {bs : List (List Int)} (h : ¬ BlksGood t f bs) : blksB t f bs = false := decide_eq_false h
theorem blksTo_succ {t : TTD} {f : FleetD} {bs : List (List Int)} {k : Nat} (hk : k < bs.length) (h : BlksTo t f bs k) (h1 : OneOk t f bs k hk) : BlksTo t f bs (k + 1) := by
  intro j hj hjk
  by_cases e : j = k
  · subst e; exact h1
  · exact h j hj (by omega)

theorem seen_zero (t : TTD) (bs : List (List Int)) : seenT t bs 0 0 = [] := by simp [seenT]
theorem seen_row {t : TTD} {bs : List (List Int)} {i k : Nat} (h : i < bs.length) (hk : k < bs[i].length) : seenT t bs i (k + 1) = seenT t bs i k ++ [pl t bs[i][k]] := by
  have e : bs.getD i [] = bs[i] := by simp [h]
  unfold seenT
  rw [e, List.take_succ_eq_append_getElem hk, ← List.append_assoc, List.map_append]
  rfl
theorem seen_next {t : TTD} {bs : List (List Int)} {i : Nat} (h : i < bs.length) : seenT t bs i bs[i].length = seenT t bs (i + 1) 0 := by
  have e : bs.getD i [] = bs[i] := by simp [h]
  unfold seenT
  rw [e, List.take_succ_eq_append_getElem h, List.take_of_length_le (Nat.le_refl _), List.flatten_append]
  simp only [List.take_zero, List.append_nil, List.flatten_cons, List.flatten_nil]
theorem seen_end (t : TTD) (bs : List (List Int)) : seenT t bs bs.length 0 = allT t bs := by simp [seenT, allT]
theorem seen_prefix {t : TTD} {bs : List (List Int)} {i k : Nat} (h : i < bs.length) : ∃ r, allT t bs = seenT t bs i k ++ r := by
  refine ⟨((bs[i].drop k) ++ (bs.drop (i + 1)).flatten).map (pl t), ?_⟩
  have e : bs.getD i [] = bs[i] := by simp [h]
  unfold allT seenT
  rw [e, ← List.map_append]
  congr 1
  conv => lhs; rw [← List.take_append_drop i bs, List.drop_eq_getElem_cons h]
  rw [List.flatten_append, List.flatten_cons, List.append_assoc, ← List.append_assoc (bs[i].take k), List.take_append_drop]
theorem seen_nodup {t : TTD} {bs : List (List Int)} {i k : Nat} (h : i < bs.length) (hn : (allT t bs).Nodup) : (seenT t bs i k).Nodup := by
  obtain ⟨r, hr⟩ := seen_prefix (t := t) (k := k) h
  rw [hr] at hn
  exact (List.nodup_append.1 hn).1

theorem nodup_len : ∀ {A B : List Nat}, A.Nodup → (∀ x ∈ A, x ∈ B) → A.length ≤ B.length
  | [], B, _, _ => by simp
  | a :: A, B, hn, hs => by
    have ha := hs a (by simp)
    have hn' := List.nodup_cons.1 hn
    have h1 := nodup_len (A := A) (B := B.erase a) hn'.2 (fun x hx => (List.mem_erase_of_ne (fun e => hn'.1 (by rw [← e]; exact hx))).2 (hs x (by simp [hx])))
    have h2 := List.length_erase_of_mem ha
    have h3 : 0 < B.length := List.length_pos_of_mem ha
    simp only [List.length_cons]
    omega
theorem full_iff {L : List Nat} {n : Nat} (hn : L.Nodup) (hl : ∀ x ∈ L, x < n) : L.length = n ↔ ∀ p, p < n → p ∈ L := by
  constructor
  · intro h p hp
    by_cases c : p ∈ L
    · exact c
    · have := nodup_len (A := p :: L) (B := List.range n) (List.nodup_cons.2 ⟨c, hn⟩) (fun x hx => by
        rcases List.mem_cons.1 hx with h | h
        · subst h; exact List.mem_range.2 hp
        · exact List.mem_range.2 (hl x h))
      simp at this; omega
  · intro h
    have h1 := nodup_len (A := L) (B := List.range n) hn (fun x hx => List.mem_range.2 (hl x hx))
    have h2 := nodup_len (A := List.range n) (B := L) List.nodup_range (fun x hx => h x (List.mem_range.1 hx))
    simp at h1 h2; omega
theorem found_lt {t : TTD} {id : Int} (h : foundT t id = true) : pl t id < t.trips.length := by
  unfold foundT foundB at h
  unfold pl
  by_cases c : placeOf id t.trips < t.trips.length
  · exact c
  · rw [List.getElem?_eq_none (by omega)] at h; simp at h
theorem tripOf_at {t : TTD} {id : Int} (h : foundT t id = true) : tripOf t id = t.trips[pl t id]'(found_lt h) := by
  have hl := found_lt h
  unfold tripOf
  simp [hl]
theorem seen_lt {t : TTD} {f : FleetD} {bs : List (List Int)} {i : Nat} (h : BlksTo t f bs i) (hi : i ≤ bs.length) : ∀ x ∈ seenT t bs i 0, x < t.trips.length := by
  intro x hx
  unfold seenT at hx
  rw [List.take_zero, List.append_nil] at hx
  obtain ⟨id, hx2, rfl⟩ := List.mem_map.1 hx
  obtain ⟨b, hb, hid⟩ := List.mem_flatten.1 hx2
  obtain ⟨j, hj, rfl⟩ := List.mem_take_iff_getElem.1 hb
  have hj' : j < bs.length := by omega
  obtain ⟨k, hk, rfl⟩ := List.getElem_of_mem hid
  exact found_lt ((h j hj' (by omega)).1.2 k hk hk).1

end Go.Proofs.Ytehpeifaknbcnaa

namespace Go.Proofs
open Go.Shelf
def Try.lays113_ren : Go.Shelf.Ren := ⟨fun | 113 => 53 | n => n, fun | 28 => 80 | 3 => 3 | 4 => 4 | 9 => 9 | 20 => 20 | 0 => 0 | n => n, fun | n => n⟩
theorem Try.lays113 : Go.Proofs.Lays.n113 Try.prog Try.lays113_ren := {
  mixed := by kernel_rfl
  f113 := Try.func53.trans (congrArg some (by kernel_rfl))
  t0 := Try.underlying0
  a0 := Try.isAgg0
  z0 := Try.sizeOf0
  v0 := Try.zeroValue0
  t3 := Try.underlying3
  a3 := Try.isAgg3
  z3 := Try.sizeOf3
  v3 := Try.zeroValue3
  t4 := Try.underlying4
  a4 := Try.isAgg4
  z4 := Try.sizeOf4
  v4 := Try.zeroValue4
  t9 := Try.underlying9
  a9 := Try.isAgg9
  z9 := Try.sizeOf9
  v9 := Try.zeroValue9
  t20 := Try.underlying20
  a20 := Try.isAgg20
  z20 := Try.sizeOf20
  v20 := Try.zeroValue20
  t28 := Try.underlying80
  a28 := Try.isAgg80
  z28 := Try.sizeOf80
  v28 := Try.zeroValue80 }
open Go.Lib in

theorem Try.slices_Max_int (b off n c : Nat) (zs : List Int) (w : World) (hn : 0 < n) (hz : n ≤ zs.length) (hbig : n ≤ 9223372036854775807) (hc : ∀ j, j < zs.length → w.cell? ⟨b, off + j, none⟩ = some (.int .i64 (zs.getD j 0))) :
    Calls Try.prog 53 #[.slice (some ⟨b, off, none⟩) n c] w fun e w' => e = .returned (.int .i64 (Lib.maxOf (zs.take n))) ∧ w' = w := Any.slices_Max_int Try.lays113 b off n c zs w hn hz hbig hc
def Try.lays114_ren : Go.Shelf.Ren := ⟨fun | 114 => 52 | n => n, fun | 28 => 80 | 3 => 3 | 4 => 4 | 9 => 9 | 20 => 20 | 0 => 0 | n => n, fun | n => n⟩
theorem Try.lays114 : Go.Proofs.Lays.n114 Try.prog Try.lays114_ren := {
  mixed := by kernel_rfl
  f114 := Try.func52.trans (congrArg some (by kernel_rfl))
  t0 := Try.underlying0
  a0 := Try.isAgg0
  z0 := Try.sizeOf0
  v0 := Try.zeroValue0
  t3 := Try.underlying3
  a3 := Try.isAgg3
  z3 := Try.sizeOf3
  v3 := Try.zeroValue3
  t4 := Try.underlying4
  a4 := Try.isAgg4
  z4 := Try.sizeOf4
  v4 := Try.zeroValue4
  t9 := Try.underlying9
  a9 := Try.isAgg9
  z9 := Try.sizeOf9
  v9 := Try.zeroValue9
  t20 := Try.underlying20
  a20 := Try.isAgg20
  z20 := Try.sizeOf20
  v20 := Try.zeroValue20
  t28 := Try.underlying80
  a28 := Try.isAgg80
  z28 := Try.sizeOf80
  v28 := Try.zeroValue80 }
open Go.Lib in

theorem Try.slices_Min_int (b off n c : Nat) (zs : List Int) (w : World) (hn : 0 < n) (hz : n ≤ zs.length) (hbig : n ≤ 9223372036854775807) (hc : ∀ j, j < zs.length → w.cell? ⟨b, off + j, none⟩ = some (.int .i64 (zs.getD j 0))) :
    Calls Try.prog 52 #[.slice (some ⟨b, off, none⟩) n c] w fun e w' => e = .returned (.int .i64 (Lib.minOf (zs.take n))) ∧ w' = w := Any.slices_Min_int Try.lays114 b off n c zs w hn hz hbig hc
def Try.laysNm215_ren : Go.Shelf.Ren := ⟨fun | 15 => 88 | n => n, fun | 22 => 80 | 3 => 3 | 4 => 4 | n => n, fun | n => n⟩
theorem Try.laysNm215 : Go.Proofs.Lays2.n15 Try.prog Try.laysNm215_ren := {
  mixed := by kernel_rfl
  f15 := Try.func88.trans (congrArg some (by kernel_rfl))
  t3 := Try.underlying3
  a3 := Try.isAgg3
  z3 := Try.sizeOf3
  v3 := Try.zeroValue3
  t4 := Try.underlying4
  a4 := Try.isAgg4
  z4 := Try.sizeOf4
  v4 := Try.zeroValue4
  t22 := Try.underlying80
  a22 := Try.isAgg80
  z22 := Try.sizeOf80
  v22 := Try.zeroValue80
  i3 := by kernel_rfl }
open Go.RowKit Go.Lib in

theorem Try.slices_Clone_int (b off n c : Nat) (zs : List Int) (w : World) (hz : n ≤ zs.length) (hbig : n * 8 ≤ 140737488355328) (hc : ∀ j, j < zs.length → w.cell? ⟨b, off + j, none⟩ = some (.int .i64 (zs.getD j 0))) :
    Calls Try.prog 88 #[.slice (some ⟨b, off, none⟩) n c] w fun e w' => ∃ v', e = .returned v' ∧ w'.ownsRow w.heap.size 3 1 v' n ((zs.take n).map (Value.int .i64)) ∧ v' ≠ .slice none 0 0 ∧ Below w.heap.size w w' := Any.slices_Clone_int Try.laysNm215 b off n c zs w hz hbig hc
end Go.Proofs
