/-
  PLAIN WORDS on the model's search: the candidates ride by ride and stop by stop; what is found first.
-/
import Derived.Test.YtmcpafflnccfaaaJrnTT
namespace Go.Proofs.Ytmcpafflnccfaaa
open Go.RowKit Jrn
set_option linter.unusedVariables false

/-- what the search does with a candidate -/
def tryF (cands : List LegD → Int → Int → List LegD) (ch too arrive : Int) (n : Nat) (used : List LegD) (l : LegD) : Option (List LegD) :=
  if n = 0 then (if l.dst = too ∧ l.arr = arrive then some [l] else none) else (dfsF cands ch too arrive n (used ++ [l]) l.dst (l.arr + ch)).map (l :: ·)
theorem dfsF_succ (cands : List LegD → Int → Int → List LegD) (ch too arrive : Int) (n : Nat) (used : List LegD) (s t : Int) : dfsF cands ch too arrive (n + 1) used s t = (cands used s t).findSome? (tryF cands ch too arrive n used) := rfl
/-- what the search returns: all legs of the journey so far, or none -/
def extR (used : List LegD) (o : Option (List LegD)) : List LegD := match o with
  | some c => used ++ c
  | none => []
/-- the candidates of one ride to the first q stops -/
def candT (A : Int) (r : RideD) (s : Int) (q : Nat) : List LegD := (List.range q).filterMap (fun q : Nat => candO A r s (q : Int))
theorem candT_succ (A : Int) (r : RideD) (s : Int) (q : Nat) : candT A r s (q + 1) = candT A r s q ++ (candO A r s (q : Int)).toList := by
  unfold candT
  rw [List.range_succ, List.filterMap_append]
  cases h : candO A r s (q : Int) <;> simp [h]
theorem candR_yes {N : Nat} {A : Int} {r : RideD} {used : List LegD} {s t : Int} (h : rideOkB r used s t = true) : candR N A r used s t = candT A r s N := by unfold candR; rw [if_pos h]; rfl
theorem candR_no {N : Nat} {A : Int} {r : RideD} {used : List LegD} {s t : Int} (h : rideOkB r used s t = false) : candR N A r used s t = [] := by unfold candR; rw [if_neg (by simp [h])]
theorem cands_take {N : Nat} {rs : List RideD} {A : Int} {used : List LegD} {s t : Int} (i : Nat) (hi : i < rs.length) : candsF N (rs.take (i + 1)) A used s t = candsF N (rs.take i) A used s t ++ candR N A rs[i] used s t := by
  unfold candsF
  rw [List.take_succ_eq_append_getElem hi, List.flatMap_append]
  simp
theorem cands_split {N : Nat} {rs : List RideD} {A : Int} {used : List LegD} {s t : Int} (i : Nat) (hi : i < rs.length) : candsF N rs A used s t = candsF N (rs.take i) A used s t ++ (candR N A rs[i] used s t ++ candsF N (rs.drop (i + 1)) A used s t) := by
  unfold candsF
  conv => lhs; rw [← List.take_append_drop i rs, List.drop_eq_getElem_cons hi]
  rw [List.flatMap_append, List.flatMap_cons]
theorem candT_split {A : Int} {r : RideD} {s : Int} {N q : Nat} {l : LegD} (hq : q < N) (hl : candO A r s (q : Int) = some l) : ∃ bs, candT A r s N = candT A r s q ++ l :: bs := by
  obtain ⟨m, rfl⟩ : ∃ m, N = q + 1 + m := ⟨N - (q + 1), by omega⟩
  refine ⟨((List.range m).map (q + 1 + ·)).filterMap (fun q : Nat => candO A r s (q : Int)), ?_⟩
  have e : List.range (q + 1 + m) = List.range (q + 1) ++ (List.range m).map (q + 1 + ·) := List.range_add
  have h1 := candT_succ A r s q
  rw [hl] at h1
  unfold candT at h1 ⊢
  rw [e, List.filterMap_append, h1]
  simp
theorem none_find {α β : Type} {f : α → Option β} {xs ys : List α} (h : ∀ x ∈ xs, f x = none) : (xs ++ ys).findSome? f = ys.findSome? f := by
  rw [List.findSome?_append, List.findSome?_eq_none_iff.2 h]; rfl
/-- the first candidate with a journey -/
theorem dfs_hit {N : Nat} {rs : List RideD} {A : Int} {used : List LegD} {s t : Int} {f : LegD → Option (List LegD)} {i q : Nat} (hi : i < rs.length) (hok : rideOkB rs[i] used s t = true) (hq : q < N) {l : LegD} {c : List LegD}
    (hl : candO A rs[i] s (q : Int) = some l) (h1 : ∀ x ∈ candsF N (rs.take i) A used s t, f x = none) (h2 : ∀ x ∈ candT A rs[i] s q, f x = none) (hf : f l = some c) : (candsF N rs A used s t).findSome? f = some c := by
  obtain ⟨bs, hb⟩ := candT_split hq hl
  rw [cands_split i hi, none_find h1, candR_yes hok, hb, List.append_assoc, none_find h2, List.cons_append, List.findSome?_cons, hf]
theorem dfs_miss {α β : Type} {f : α → Option β} {xs : List α} (h : ∀ x ∈ xs, f x = none) : xs.findSome? f = none := List.findSome?_eq_none_iff.2 h
/-- the leg to one stop, as the search finds it -/
theorem candO_no {A : Int} {r : RideD} {s q : Int} {a b : Nat} (ha : r.stops.idxOf s = a) (hb : r.stops.idxOf q = b) (h : ¬ (a < b ∧ b < r.stops.length ∧ r.times.getD b 0 ≤ A)) : candO A r s q = none := by
  unfold candO; rw [ha, hb, if_neg h]
theorem candO_yes {A : Int} {r : RideD} {s q : Int} {a b : Nat} (ha : r.stops.idxOf s = a) (hb : r.stops.idxOf q = b) (h : a < b ∧ b < r.stops.length ∧ r.times.getD b 0 ≤ A) : candO A r s q = some (legR r a b) := by
  unfold candO; rw [ha, hb, if_pos h]
theorem candO_out {A : Int} {r : RideD} {s q : Int} (h : q ∉ r.stops) : candO A r s q = none := by
  unfold candO
  rw [if_neg]
  rintro ⟨-, h2, -⟩
  exact h (List.idxOf_lt_length_iff.1 h2)
/-- where the used trips are, by the loop -/
def usedT (used : List LegD) (id : Int) (k : Nat) : Bool := (used.take k).any (fun l => l.trip == id)
theorem usedT_succ (used : List LegD) (id : Int) (k : Nat) (hk : k < used.length) : usedT used id (k + 1) = (usedT used id k || used[k].trip == id) := by
  unfold usedT
  rw [List.take_succ_eq_append_getElem hk, List.any_append]
  simp
theorem usedT_all (used : List LegD) (id : Int) : usedT used id used.length = used.any (fun l => l.trip == id) := by unfold usedT; rw [List.take_length]
theorem rideOk_used {r : RideD} {used : List LegD} {s t : Int} (h : used.any (fun l => l.trip == r.id) = true) : rideOkB r used s t = false := by unfold rideOkB; rw [h]; rfl
theorem rideOk_out {r : RideD} {used : List LegD} {s t : Int} (h : s ∉ r.stops) : rideOkB r used s t = false := by unfold rideOkB; rw [decide_eq_false h]; simp
theorem rideOk_late {r : RideD} {used : List LegD} {s t : Int} {a : Nat} (ha : r.stops.idxOf s = a) (h : r.times.getD a 0 < t) : rideOkB r used s t = false := by unfold rideOkB; rw [ha, decide_eq_false (show ¬ t ≤ r.times.getD a 0 by omega)]; simp
theorem rideOk_yes {r : RideD} {used : List LegD} {s t : Int} {a : Nat} (hu : used.any (fun l => l.trip == r.id) = false) (hm : s ∈ r.stops) (ha : r.stops.idxOf s = a) (h : ¬ r.times.getD a 0 < t) : rideOkB r used s t = true := by unfold rideOkB; rw [hu, decide_eq_true hm, ha, decide_eq_true (show t ≤ r.times.getD a 0 by omega)]; rfl
end Go.Proofs.Ytmcpafflnccfaaa
