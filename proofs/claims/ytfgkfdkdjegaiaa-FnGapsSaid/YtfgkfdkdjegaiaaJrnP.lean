/-
  PLAIN WORDS of chapter 8, of no program: rides, legs, chains of legs; the first journey pre1 the program finds it and pre1 the model does; earliest arrivals, the latest departure.
-/
import Derived.Test.YtfgkfdkdjegaiaaMk05
namespace Go.Proofs.Ytfgkfdkdjegaiaa.Jrn
set_option linter.unusedVariables false
set_option linter.unusedSectionVars false
/-! rides: a trip with its stops and its times -/
structure RideD where
  id : Int
  stops : List Int
  times : List Int
def legR (r : RideD) (i j : Nat) : LegD := ⟨r.id, r.stops.getD i 0, r.stops.getD j 0, r.times.getD i 0, r.times.getD j 0⟩
/-- the legs of a ride that begin at a place -/
def legsFrom (r : RideD) (i m : Nat) : List LegD := (List.range m).map fun d => legR r i (i + 1 + d)
/-- the legs of a ride that begin at the first places -/
def legsTo (r : RideD) (m : Nat) : List LegD := (List.range m).flatMap fun i => legsFrom r i (r.stops.length - (i + 1))
def rideLegs (r : RideD) : List LegD := legsTo r r.stops.length
def allLegs (rs : List RideD) : List LegD := rs.flatMap rideLegs
theorem legsFrom_succ (r : RideD) (i m : Nat) : legsFrom r i (m + 1) = legsFrom r i m ++ [legR r i (i + 1 + m)] := by simp [legsFrom, List.range_succ]
theorem legsTo_succ (r : RideD) (m : Nat) : legsTo r (m + 1) = legsTo r m ++ legsFrom r m (r.stops.length - (m + 1)) := by simp [legsTo, List.range_succ]
theorem allLegs_take_succ (rs : List RideD) (k : Nat) (h : k < rs.length) : allLegs (rs.take (k + 1)) = allLegs (rs.take k) ++ rideLegs rs[k] := by
  unfold allLegs; rw [List.take_succ_eq_append_getElem h, List.flatMap_append]; simp only [List.flatMap_cons, List.flatMap_nil, List.append_nil]
theorem mem_rideLegs {r : RideD} {l : LegD} : l ∈ rideLegs r ↔ ∃ i j, i < j ∧ j < r.stops.length ∧ l = legR r i j := by
  unfold rideLegs legsTo legsFrom
  constructor
  · intro h
    obtain ⟨i, hi, h⟩ := List.mem_flatMap.1 h
    obtain ⟨d, hd, rfl⟩ := List.mem_map.1 h
    rw [List.mem_range] at hi hd
    exact ⟨i, i + 1 + d, by omega, by omega, rfl⟩
  · rintro ⟨i, j, hij, hj, rfl⟩
    exact List.mem_flatMap.2 ⟨i, List.mem_range.2 (by omega), List.mem_map.2 ⟨j - (i + 1), List.mem_range.2 (by omega), by rw [show i + 1 + (j - (i + 1)) = j by omega]⟩⟩
theorem mem_allLegs {rs : List RideD} {l : LegD} : l ∈ allLegs rs ↔ ∃ r ∈ rs, ∃ i j, i < j ∧ j < r.stops.length ∧ l = legR r i j := by
  unfold allLegs
  rw [List.mem_flatMap]
  constructor
  · rintro ⟨r, hr, h⟩; exact ⟨r, hr, mem_rideLegs.1 h⟩
  · rintro ⟨r, hr, h⟩; exact ⟨r, hr, mem_rideLegs.2 h⟩

structure RideOk (r : RideD) : Prop where
  len : r.times.length = r.stops.length
  nodup : r.stops.Nodup
  asc : ∀ i j (hij : i < j) (hj : j < r.times.length), r.times[i] < r.times[j]
structure RidesOk (rs : List RideD) : Prop where
  each : ∀ r ∈ rs, RideOk r
  ids : rs.Pairwise (fun a b => a.id < b.id)
theorem RideOk.lt {r : RideD} (h : RideOk r) {i j : Nat} (hij : i < j) (hj : j < r.stops.length) : (legR r i j).dep < (legR r i j).arr := by
  have := h.len
  simp only [legR, List.getD_eq_getElem?_getD]
  rw [List.getElem?_eq_getElem (by omega), List.getElem?_eq_getElem (by omega)]
  exact h.asc i j hij (by omega)
theorem RidesOk.id_eq {rs : List RideD} (h : RidesOk rs) {a b : RideD} (ha : a ∈ rs) (hb : b ∈ rs) (e : a.id = b.id) : a = b := by
  obtain ⟨i, hi, rfl⟩ := List.getElem_of_mem ha
  obtain ⟨j, hj, rfl⟩ := List.getElem_of_mem hb
  have hp := List.pairwise_iff_getElem.1 h.ids
  rcases Nat.lt_trichotomy i j with hij | hij | hij
  · have := hp i j hi hj hij; omega
  · subst hij; rfl
  · have := hp j i hj hi hij; omega
theorem nodup_getD {xs : List Int} (h : xs.Nodup) {i j : Nat} (hi : i < xs.length) (hj : j < xs.length) (e : xs.getD i 0 = xs.getD j 0) : i = j := by
  simp only [List.getD_eq_getElem?_getD, List.getElem?_eq_getElem hi, List.getElem?_eq_getElem hj, Option.getD_some] at e
  exact (List.getElem_inj h).1 e
/-- a leg is known by its trip and its two stops -/
theorem RidesOk.leg_eq {rs : List RideD} (h : RidesOk rs) {a b : LegD} (ha : a ∈ allLegs rs) (hb : b ∈ allLegs rs) (e1 : a.trip = b.trip) (e2 : a.frm = b.frm) (e3 : a.dst = b.dst) : a = b := by
  obtain ⟨r, hr, i, j, hij, hj, rfl⟩ := mem_allLegs.1 ha
  obtain ⟨q, hq, k, m, hkm, hm, rfl⟩ := mem_allLegs.1 hb
  obtain rfl := h.id_eq hr hq e1
  have hn := (h.each _ hr).nodup
  obtain rfl := nodup_getD hn (by omega) (by omega) e2
  obtain rfl := nodup_getD hn (by omega) (by omega) e3
  rfl
theorem RidesOk.leg_lt {rs : List RideD} (h : RidesOk rs) {a : LegD} (ha : a ∈ allLegs rs) : a.dep < a.arr := by
  obtain ⟨r, hr, i, j, hij, hj, rfl⟩ := mem_allLegs.1 ha
  exact (h.each _ hr).lt hij hj

/-! one leg -/
def fillF (L : List LegD) (trip frm dst : Int) : Option LegD := (L.filter (fun l => l.frm = frm)).find? (fun l => l.trip = trip ∧ l.dst = dst)
theorem fillF_some {L : List LegD} {trip frm dst : Int} {l : LegD} (h : fillF L trip frm dst = some l) : l ∈ L ∧ l.trip = trip ∧ l.frm = frm ∧ l.dst = dst := by
  have h1 := List.mem_of_find?_eq_some h
  have h2 := List.find?_some h
  simp at h1 h2
  exact ⟨h1.1, h2.1, h1.2, h2.2⟩
theorem fillF_none {L : List LegD} {trip frm dst : Int} (h : fillF L trip frm dst = none) (l : LegD) (hl : l ∈ L) (h1 : l.trip = trip) (h2 : l.frm = frm) (h3 : l.dst = dst) : False := by
  have := List.find?_eq_none.1 h l (by simp [hl, h2])
  simp [h1, h3] at this
theorem fillF_of {rs : List RideD} (h : RidesOk rs) {l : LegD} (hl : l ∈ allLegs rs) : fillF (allLegs rs) l.trip l.frm l.dst = some l := by
  cases hf : fillF (allLegs rs) l.trip l.frm l.dst with
  | none => exact (fillF_none hf l hl rfl rfl rfl).elim
  | some m =>
    obtain ⟨h1, h2, h3, h4⟩ := fillF_some hf
    rw [h.leg_eq h1 hl h2 h3 h4]

/-! journeys -/
def StepOk (L : List LegD) (ch : Int) (c : List LegD) (k : Nat) (hk : k < c.length) : Prop :=
  c[k] ∈ L ∧ (∀ j (hj : j < k), (c[j]'(by omega)).trip ≠ c[k].trip) ∧ ∀ j (hj : j + 1 = k), (c[j]'(by omega)).dst = c[k].frm ∧ (c[j]'(by omega)).arr + ch ≤ c[k].dep
def StepsTo (L : List LegD) (ch : Int) (c : List LegD) (k : Nat) : Prop := ∀ j (hj : j < c.length), j < k → StepOk L ch c j hj
def JrnOk (L : List LegD) (ch : Int) (c : List LegD) : Prop := 1 ≤ c.length ∧ c.length ≤ 4 ∧ StepsTo L ch c c.length
theorem stepsTo_succ {L : List LegD} {ch : Int} {c : List LegD} {k : Nat} (hk : k < c.length) (h : StepsTo L ch c k) (h1 : StepOk L ch c k hk) : StepsTo L ch c (k + 1) := by
  intro j hj hjk
  by_cases e : j = k
  · subst e; exact h1
  · exact h j hj (by omega)
noncomputable def jrnB (L : List LegD) (ch : Int) (c : List LegD) : Bool := @decide (JrnOk L ch c) (Classical.propDecidable _)
theorem jrnB_yes {L : List LegD} {ch : Int} {c : List LegD} (h : JrnOk L ch c) : jrnB L ch c = true := by unfold jrnB; exact @decide_eq_true _ (Classical.propDecidable _) h
theorem jrnB_no {L : List LegD} {ch : Int} {c : List LegD} (h : ¬ JrnOk L ch c) : jrnB L ch c = false := by unfold jrnB; exact @decide_eq_false _ (Classical.propDecidable _) h

/-- the waits between the first legs -/
def waitsTo : List LegD → Nat → Int
  | c, 0 => 0
  | c, k + 1 => waitsTo c k + (if h : k + 1 < c.length then c[k + 1].dep - c[k].arr else 0)
/-- the rides of the first legs -/
def ridesTo : List LegD → Nat → Int
  | c, 0 => 0
  | c, k + 1 => ridesTo c k + (if h : k < c.length then c[k].arr - c[k].dep else 0)
theorem tele (c : List LegD) (h0 : 0 < c.length) : ∀ k (hk : k < c.length), c[k].arr - c[0].dep - ridesTo c (k + 1) = waitsTo c k
  | 0, hk => by simp [ridesTo, waitsTo, hk]
  | k + 1, hk => by
    have ih := tele c h0 k (by omega)
    have e1 : ridesTo c (k + 1 + 1) = ridesTo c (k + 1) + (c[k + 1].arr - c[k + 1].dep) := by rw [ridesTo]; simp [hk]
    have e2 : waitsTo c (k + 1) = waitsTo c k + (c[k + 1].dep - c[k].arr) := by rw [waitsTo]; simp [hk]
    rw [e1, e2, ← ih]; omega
/-! chains of legs -/
/-- legs that follow each other, from a stop at a time on -/
def Chain (L : List LegD) (ch : Int) : Int → Int → List LegD → Prop
  | _, _, [] => True
  | s, t, l :: c => l ∈ L ∧ l.frm = s ∧ t ≤ l.dep ∧ Chain L ch l.dst (l.arr + ch) c
/-- the stop and the time at which legs end -/
def endS (s : Int) : List LegD → Int
  | [] => s
  | l :: c => endS l.dst c
def endT (t : Int) : List LegD → Int
  | [] => t
  | l :: c => endT l.arr c
theorem endS_snoc (s : Int) (c : List LegD) (l : LegD) : endS s (c ++ [l]) = l.dst := by
  induction c generalizing s with
  | nil => rfl
  | cons x c ih => exact ih _
theorem endT_snoc (t : Int) (c : List LegD) (l : LegD) : endT t (c ++ [l]) = l.arr := by
  induction c generalizing t with
  | nil => rfl
  | cons x c ih => exact ih _
/-- when the next leg can depart behind legs: at once if there are none -/
def readyT (ch t : Int) : List LegD → Int
  | [] => t
  | l :: c => endT l.arr c + ch
theorem chain_snoc (L : List LegD) (ch : Int) : ∀ (c : List LegD) (s t : Int) (l : LegD), Chain L ch s t (c ++ [l]) ↔ Chain L ch s t c ∧ l ∈ L ∧ l.frm = endS s c ∧ readyT ch t c ≤ l.dep
  | [], s, t, l => by simp [Chain, endS, readyT]
  | x :: c, s, t, l => by
    have ih := chain_snoc L ch c x.dst (x.arr + ch) l
    have e : readyT ch (x.arr + ch) c = readyT ch t (x :: c) := by cases c <;> rfl
    rw [e] at ih
    show x ∈ L ∧ x.frm = s ∧ t ≤ x.dep ∧ Chain L ch x.dst (x.arr + ch) (c ++ [l]) ↔ (x ∈ L ∧ x.frm = s ∧ t ≤ x.dep ∧ Chain L ch x.dst (x.arr + ch) c) ∧ l ∈ L ∧ l.frm = endS x.dst c ∧ _
    rw [ih]
    constructor
    · rintro ⟨a, b, c, d, e⟩; exact ⟨⟨a, b, c, d⟩, e⟩
    · rintro ⟨⟨a, b, c, d⟩, e⟩; exact ⟨a, b, c, d, e⟩
theorem chain_end (L : List LegD) (ch : Int) (h0 : 0 ≤ ch) (hL : ∀ l ∈ L, l.dep < l.arr) : ∀ (c : List LegD) (s t : Int), Chain L ch s t c → t ≤ endT t c
  | [], s, t, _ => Int.le_refl _
  | x :: c, s, t, ⟨h1, h2, h3, h4⟩ => by
    have := hL x h1
    have ih := chain_end L ch h0 hL c x.dst (x.arr + ch) h4
    show t ≤ endT x.arr c
    cases c with
    | nil => show t ≤ x.arr; omega
    | cons y c =>
      have e : endT (x.arr + ch) (y :: c) = endT x.arr (y :: c) := rfl
      omega
theorem endT_cons (t : Int) (l : LegD) (c : List LegD) : endT t (l :: c) = endT l.arr c := rfl

/-! the order of journeys -/
def rideLt (a b : LegD) : Prop := a.trip < b.trip ∨ (a.trip = b.trip ∧ (a.frm < b.frm ∨ (a.frm = b.frm ∧ a.dst < b.dst)))
def rideEq (a b : LegD) : Prop := a.trip = b.trip ∧ a.frm = b.frm ∧ a.dst = b.dst
def lexLt : List LegD → List LegD → Prop
  | [], [] => False
  | [], _ :: _ => True
  | _ :: _, [] => False
  | a :: x, b :: y => rideLt a b ∨ (rideEq a b ∧ lexLt x y)
/-- a journey that comes before another one: both end (are not empty) -/
def JLt (a b : List LegD) : Prop := endT 0 a < endT 0 b ∨ (endT 0 a = endT 0 b ∧ (a.length < b.length ∨ (a.length = b.length ∧ lexLt a b)))
theorem rideLt_trans {a b c : LegD} (h1 : rideLt a b) (h2 : rideLt b c) : rideLt a c := by unfold rideLt at *; omega
theorem lexLt_irrefl : ∀ a, ¬ lexLt a a
  | [], h => h
  | x :: a, h => by
    rcases h with h | ⟨_, h⟩
    · unfold rideLt at h; omega
    · exact lexLt_irrefl a h
theorem lexLt_trans : ∀ {a b c : List LegD}, lexLt a b → lexLt b c → lexLt a c
  | [], [], _, h1, _ => h1.elim
  | [], y :: b, [], _, h2 => h2.elim
  | [], y :: b, z :: c, _, _ => trivial
  | x :: a, [], _, h1, _ => h1.elim
  | x :: a, y :: b, [], _, h2 => h2.elim
  | x :: a, y :: b, z :: c, h1, h2 => by
    rcases h1 with h1 | ⟨e1, h1⟩
    · rcases h2 with h2 | ⟨e2, h2⟩
      · exact .inl (rideLt_trans h1 h2)
      · refine .inl ?_
        unfold rideLt rideEq at *; omega
    · rcases h2 with h2 | ⟨e2, h2⟩
      · refine .inl ?_
        unfold rideLt rideEq at *; omega
      · refine .inr ⟨?_, lexLt_trans h1 h2⟩
        unfold rideEq at *; omega
theorem JLt_trans {a b c : List LegD} (h1 : JLt a b) (h2 : JLt b c) : JLt a c := by
  rcases h1 with h1 | ⟨e1, h1 | ⟨l1, h1⟩⟩ <;> rcases h2 with h2 | ⟨e2, h2 | ⟨l2, h2⟩⟩
  all_goals first | (left; omega) | (right; refine ⟨by omega, ?_⟩; first | (left; omega) | (right; exact ⟨by omega, lexLt_trans h1 h2⟩))
theorem JLt_irrefl (a : List LegD) : ¬ JLt a a := by
  rintro (h | ⟨_, h | ⟨_, h⟩⟩)
  · omega
  · omega
  · exact lexLt_irrefl a h
/-- not after -/
def JLe (a b : List LegD) : Prop := ¬ JLt b a
theorem lexLt_total : ∀ (a b : List LegD), a.length = b.length → lexLt a b ∨ lexLt b a ∨ (∀ i (h : i < a.length) (h' : i < b.length), rideEq a[i] b[i])
  | [], [], _ => .inr (.inr (fun i h => by simp at h))
  | [], y :: b, h => by simp at h
  | x :: a, [], h => by simp at h
  | x :: a, y :: b, h => by
    have hxy : rideLt x y ∨ rideLt y x ∨ rideEq x y := by unfold rideLt rideEq; omega
    rcases hxy with hxy | hxy | hxy
    · exact .inl (.inl hxy)
    · exact .inr (.inl (.inl hxy))
    · rcases lexLt_total a b (by simpa using h) with h1 | h1 | h1
      · exact .inl (.inr ⟨hxy, h1⟩)
      · exact .inr (.inl (.inr ⟨by unfold rideEq at *; omega, h1⟩))
      · refine .inr (.inr fun i hi hi' => ?_)
        cases i with
        | zero => exact hxy
        | succ i => exact h1 i (by simpa using hi) (by simpa using hi')
/-- two that are as good as each other, of legs that are known by trip and stops, are one -/
theorem lex_same {L : List LegD} (hL : ∀ a ∈ L, ∀ b ∈ L, rideEq a b → a = b) {a b : List LegD} (ha : ∀ x ∈ a, x ∈ L) (hb : ∀ x ∈ b, x ∈ L) (hl : a.length = b.length) (h1 : ¬ lexLt a b) (h2 : ¬ lexLt b a) : a = b := by
  rcases lexLt_total a b hl with h | h | h
  · exact (h1 h).elim
  · exact (h2 h).elim
  · refine List.ext_getElem hl fun i hi hi' => ?_
    exact hL _ (ha _ (List.getElem_mem hi)) _ (hb _ (List.getElem_mem hi')) (h i hi hi')
theorem JLe_trans {L : List LegD} (hL : ∀ a ∈ L, ∀ b ∈ L, rideEq a b → a = b) {a b c : List LegD} (ha : ∀ x ∈ a, x ∈ L) (hb : ∀ x ∈ b, x ∈ L) (hc : ∀ x ∈ c, x ∈ L) (h1 : JLe a b) (h2 : JLe b c) : JLe a c := by
  intro h
  by_cases hab : JLt a b
  · exact h2 (JLt_trans h hab)
  · -- a and b are one
    have e1 : endT 0 a = endT 0 b := by
      unfold JLe JLt at h1; unfold JLt at hab; omega
    have e2 : a.length = b.length := by
      unfold JLe JLt at h1; unfold JLt at hab; omega
    have h3 : ¬ lexLt a b := fun hh => hab (.inr ⟨e1, .inr ⟨e2, hh⟩⟩)
    have h4 : ¬ lexLt b a := fun hh => h1 (.inr ⟨e1.symm, .inr ⟨e2.symm, hh⟩⟩)
    rw [lex_same hL ha hb e2 h3 h4] at h
    exact h2 h
theorem JLe_cons (l : LegD) {a b : List LegD} (ha : a ≠ []) (hb : b ≠ []) (h : JLe a b) : JLe (l :: a) (l :: b) := by
  intro hlt
  apply h
  have e : ∀ (c : List LegD), c ≠ [] → endT 0 (l :: c) = endT 0 c := fun c hc => by cases c with | nil => exact absurd rfl hc | cons x c => rfl
  unfold JLt at hlt ⊢
  rw [e a ha, e b hb] at hlt
  rcases hlt with h | ⟨h1, h | ⟨h2, h⟩⟩
  · exact .inl h
  · exact .inr ⟨h1, .inl (by simpa using h)⟩
  · refine .inr ⟨h1, .inr ⟨by simpa using h2, ?_⟩⟩
    rcases h with h | ⟨_, h⟩
    · unfold rideLt at h; omega
    · exact h
/-! the first journey, as the program finds it -/
open Classical in
noncomputable def pickJ : Option (List LegD) → Option (List LegD) → Option (List LegD)
  | acc, none => acc
  | none, some j => some j
  | some f, some j => if JLt j f then some j else some f
def candJ (too t : Int) (g : LegD → Option (List LegD)) (l : LegD) : Option (List LegD) :=
  if l.dep < t then none else if l.dst = too then some [l] else (g l).map (l :: ·)
noncomputable def pickAll (f : LegD → Option (List LegD)) (acc : Option (List LegD)) (xs : List LegD) : Option (List LegD) := xs.foldl (fun a l => pickJ a (f l)) acc
noncomputable def bestF (L : List LegD) (ch too : Int) : Nat → Int → Int → Option (List LegD)
  | 0, _, _ => none
  | n + 1, s, t => pickAll (candJ too t (fun l => bestF L ch too n l.dst (l.arr + ch))) none (L.filter (fun l => l.frm = s))
theorem pickAll_snoc (f : LegD → Option (List LegD)) (acc : Option (List LegD)) (xs : List LegD) (l : LegD) : pickAll f acc (xs ++ [l]) = pickJ (pickAll f acc xs) (f l) := by simp [pickAll, List.foldl_append]
theorem pickJ_from {a b : Option (List LegD)} {c : List LegD} (h : pickJ a b = some c) : a = some c ∨ b = some c := by
  cases a <;> cases b
  · simp [pickJ] at h
  · exact .inr h
  · exact .inl h
  · simp only [pickJ] at h
    split at h
    · exact .inr h
    · exact .inl h
theorem pickAll_from {f : LegD → Option (List LegD)} {c : List LegD} : ∀ {xs : List LegD} {acc : Option (List LegD)}, pickAll f acc xs = some c → acc = some c ∨ ∃ x ∈ xs, f x = some c
  | [], acc, h => .inl h
  | x :: xs, acc, h => by
    rcases pickAll_from (xs := xs) (acc := pickJ acc (f x)) h with h | ⟨y, hy, h⟩
    · rcases pickJ_from h with h | h
      · exact .inl h
      · exact .inr ⟨x, by simp, h⟩
    · exact .inr ⟨y, by simp [hy], h⟩
section
variable {L : List LegD} (hL : ∀ a ∈ L, ∀ b ∈ L, rideEq a b → a = b)
include hL
omit hL in
theorem pickJ_le {a b : Option (List LegD)} {c : List LegD} (h : a = some c ∨ b = some c) : ∃ d, pickJ a b = some d ∧ JLe d c := by
  cases a with
  | none =>
    rcases h with h | h
    · cases h
    · subst h; exact ⟨c, rfl, JLt_irrefl c⟩
  | some x =>
    cases b with
    | none =>
      rcases h with h | h
      · cases h; exact ⟨c, rfl, JLt_irrefl c⟩
      · cases h
    | some y =>
      simp only [pickJ]
      by_cases hlt : JLt y x
      · rw [if_pos hlt]
        refine ⟨y, rfl, ?_⟩
        rcases h with h | h
        · cases h; exact fun h' => JLt_irrefl _ (JLt_trans hlt h')
        · cases h; exact JLt_irrefl _
      · rw [if_neg hlt]
        refine ⟨x, rfl, ?_⟩
        rcases h with h | h
        · cases h; exact JLt_irrefl _
        · cases h; exact hlt
theorem pickAll_le {f : LegD → Option (List LegD)} (hf : ∀ x c, f x = some c → ∀ y ∈ c, y ∈ L) {c : List LegD} (hc : ∀ y ∈ c, y ∈ L) : ∀ {xs : List LegD} {acc : Option (List LegD)}, (∀ a, acc = some a → ∀ y ∈ a, y ∈ L) → (acc = some c ∨ ∃ x ∈ xs, f x = some c) → ∃ d, pickAll f acc xs = some d ∧ JLe d c ∧ ∀ y ∈ d, y ∈ L
  | [], acc, ha, h => by
    rcases h with h | ⟨x, hx, _⟩
    · exact ⟨c, h, JLt_irrefl c, hc⟩
    · simp at hx
  | x :: xs, acc, ha, h => by
    have ha' : ∀ a, pickJ acc (f x) = some a → ∀ y ∈ a, y ∈ L := fun a e => by
      rcases pickJ_from e with e | e
      · exact ha a e
      · exact hf x a e
    have key : ∀ e, (acc = some e ∨ f x = some e) → (∀ y ∈ e, y ∈ L) → JLe e c → ∃ d, pickAll f (pickJ acc (f x)) xs = some d ∧ JLe d c ∧ ∀ y ∈ d, y ∈ L := fun e he hel hle => by
      obtain ⟨d, hd, hde⟩ := pickJ_le he
      have hdl := ha' d hd
      obtain ⟨g, hg, hgd, hgl⟩ := pickAll_le hf hdl (xs := xs) (acc := pickJ acc (f x)) ha' (.inl hd)
      exact ⟨g, hg, JLe_trans hL hgl hel hc (JLe_trans hL hgl hdl hel hgd hde) hle, hgl⟩
    rcases h with h | ⟨y, hy, h⟩
    · exact key c (.inl h) hc (JLt_irrefl c)
    · rcases List.mem_cons.1 hy with rfl | hy
      · exact key c (.inr h) hc (JLt_irrefl c)
      · exact pickAll_le hf hc (xs := xs) (acc := pickJ acc (f x)) ha' (.inr ⟨y, hy, h⟩)
omit hL in
theorem best_sound (ch too : Int) : ∀ (n : Nat) (s t : Int) (c : List LegD), bestF L ch too n s t = some c → c ≠ [] ∧ Chain L ch s t c ∧ c.length ≤ n ∧ endS s c = too
  | 0, s, t, c, h => by simp [bestF] at h
  | n + 1, s, t, c, h => by
    rcases pickAll_from h with h | ⟨x, hx, h⟩
    · cases h
    · simp at hx
      unfold candJ at h
      split at h
      · cases h
      · split at h
        · cases h
          exact ⟨by simp, ⟨hx.1, hx.2, by omega, trivial⟩, by simp, by assumption⟩
        · simp only [Option.map_eq_some_iff] at h
          obtain ⟨d, hd, rfl⟩ := h
          obtain ⟨h1, h2, h3, h4⟩ := best_sound ch too n _ _ d hd
          exact ⟨by simp, ⟨hx.1, hx.2, by omega, h2⟩, by simpa using h3, h4⟩
omit hL in
theorem chain_mem {ch : Int} : ∀ {c : List LegD} {s t : Int}, Chain L ch s t c → ∀ y ∈ c, y ∈ L
  | [], _, _, _, y, hy => by simp at hy
  | x :: c, s, t, ⟨h1, h2, h3, h4⟩, y, hy => by
    rcases List.mem_cons.1 hy with rfl | hy
    · exact h1
    · exact chain_mem h4 y hy
theorem best_opt (ch too : Int) (h0 : 0 ≤ ch) (hT : ∀ l ∈ L, l.dep < l.arr) : ∀ (n : Nat) (s t : Int) (c : List LegD), c ≠ [] → Chain L ch s t c → c.length ≤ n → endS s c = too → ∃ b, bestF L ch too n s t = some b ∧ JLe b c
  | 0, s, t, c, hne, _, hl, _ => by cases c with | nil => exact absurd rfl hne | cons x c => simp at hl
  | n + 1, s, t, [], hne, _, _, _ => absurd rfl hne
  | n + 1, s, t, x :: c, _, hc, hl, he => by
    obtain ⟨h1, h2, h3, h4⟩ := hc
    have hcm : ∀ y ∈ x :: c, y ∈ L := chain_mem (s := s) (t := t) (ch := ch) ⟨h1, h2, h3, h4⟩
    have hf : ∀ y d, candJ too t (fun l => bestF L ch too n l.dst (l.arr + ch)) y = some d → y ∈ L → ∀ z ∈ d, z ∈ L := fun y d hd hy => by
      unfold candJ at hd
      split at hd
      · cases hd
      · split at hd
        · cases hd; intro z hz; simp at hz; rw [hz]; exact hy
        · simp only [Option.map_eq_some_iff] at hd
          obtain ⟨e, he, rfl⟩ := hd
          intro z hz
          rcases List.mem_cons.1 hz with rfl | hz
          · exact hy
          · exact chain_mem (best_sound ch too n _ _ e he).2.1 z hz
    -- a candidate that is not after
    have cand : ∃ d, candJ too t (fun l => bestF L ch too n l.dst (l.arr + ch)) x = some d ∧ JLe d (x :: c) := by
      unfold candJ
      rw [if_neg (by omega)]
      by_cases hd : x.dst = too
      · rw [if_pos hd]
        refine ⟨_, rfl, fun hlt => ?_⟩
        cases c with
        | nil => exact JLt_irrefl _ hlt
        | cons y c =>
          have e1 : endT 0 [x] = x.arr := rfl
          have e2 : endT 0 (x :: y :: c) = endT (x.arr + ch) (y :: c) := rfl
          have := chain_end L ch h0 hT _ _ _ h4
          unfold JLt at hlt
          simp only [List.length_cons, List.length_nil] at hlt
          omega
      · rw [if_neg hd]
        have hcne : c ≠ [] := fun e => by subst e; exact hd he
        obtain ⟨b, hb, hbl⟩ := best_opt ch too h0 hT n x.dst (x.arr + ch) c hcne h4 (by simpa using hl) he
        simp only [hb, Option.map_some]
        exact ⟨_, rfl, JLe_cons x (best_sound ch too n _ _ b hb).1 hcne hbl⟩
    obtain ⟨d, hd, hdl⟩ := cand
    have hdm := hf x d hd h1
    -- candidates that are not of L never come up
    let f := fun y => if y ∈ L then candJ too t (fun l => bestF L ch too n l.dst (l.arr + ch)) y else none
    have hff : ∀ (xs : List LegD) (acc : Option (List LegD)), (∀ y ∈ xs, y ∈ L) → pickAll f acc xs = pickAll (candJ too t (fun l => bestF L ch too n l.dst (l.arr + ch))) acc xs := by
      intro xs
      induction xs with
      | nil => intro acc _; rfl
      | cons y xs ih =>
        intro acc hy
        show pickAll f (pickJ acc (f y)) xs = pickAll _ (pickJ acc _) xs
        rw [show f y = candJ too t (fun l => bestF L ch too n l.dst (l.arr + ch)) y from if_pos (hy y (by simp))]
        exact ih _ (fun z hz => hy z (by simp [hz]))
    have hfL : ∀ y e, f y = some e → ∀ z ∈ e, z ∈ L := fun y e he => by
      by_cases hy : y ∈ L
      · exact hf y e (by rw [← he]; exact (if_pos hy).symm) hy
      · rw [show f y = none from if_neg hy] at he; cases he
    have hxf : x ∈ L.filter (fun l => l.frm = s) := by simp [h1, h2]
    obtain ⟨g, hg, hgd, hgl⟩ := pickAll_le hL hfL hdm (xs := L.filter (fun l => l.frm = s)) (acc := none) (fun _ h => by cases h) (.inr ⟨x, hxf, by rw [← hd]; exact if_pos h1⟩)
    rw [hff _ _ (fun y hy => (List.mem_filter.1 hy).1)] at hg
    exact ⟨g, hg, JLe_trans hL hgl hdm hcm hgd hdl⟩
end
/-! earliest arrivals, as the model finds them: a list of times, -1 where there is none -/
/-- x is the least of a set of times, or -1 if there is none -/
def IsMin (S : Int → Prop) (x : Int) : Prop := (x = -1 ∧ ∀ y, ¬ S y) ∨ (0 ≤ x ∧ S x ∧ ∀ y, S y → x ≤ y)
theorem IsMin.uniq {S : Int → Prop} {x y : Int} (h1 : IsMin S x) (h2 : IsMin S y) : x = y := by
  rcases h1 with ⟨rfl, h1⟩ | ⟨h1, h2', h3⟩ <;> rcases h2 with ⟨rfl, h2⟩ | ⟨h4, h5, h6⟩
  · rfl
  · exact (h1 _ h5).elim
  · exact (h2 _ h2').elim
  · have := h3 _ h5; have := h6 _ h2'; omega
theorem IsMin.congr {S T : Int → Prop} {x : Int} (h : IsMin S x) (e : ∀ y, S y ↔ T y) : IsMin T x := by
  rcases h with ⟨h1, h2⟩ | ⟨h1, h2, h3⟩
  · exact .inl ⟨h1, fun y hy => h2 y ((e y).2 hy)⟩
  · exact .inr ⟨h1, (e x).1 h2, fun y hy => h3 y ((e y).2 hy)⟩
/-- one more time -/
def lowF (x t : Int) : Int := if x < 0 ∨ t < x then t else x
theorem IsMin.low {S : Int → Prop} {x t : Int} (h : IsMin S x) (ht : 0 ≤ t) : IsMin (fun y => S y ∨ y = t) (lowF x t) := by
  unfold lowF
  rcases h with ⟨rfl, h2⟩ | ⟨h1, h2, h3⟩
  · rw [if_pos (by omega)]
    exact .inr ⟨ht, .inr rfl, fun y hy => by rcases hy with hy | hy; exact (h2 y hy).elim; omega⟩
  · by_cases hlt : t < x
    · rw [if_pos (.inr hlt)]
      exact .inr ⟨ht, .inr rfl, fun y hy => by rcases hy with hy | hy; (have := h3 y hy; omega); omega⟩
    · rw [if_neg (by omega)]
      exact .inr ⟨h1, .inl h2, fun y hy => by rcases hy with hy | hy; exact h3 y hy; omega⟩

/-- may one board at a place, with what was reached before -/
def boardB (best : List Int) (frm at_ wait s t : Int) : Bool := decide (0 ≤ best.getD s.toNat 0 ∧ (if s = frm then at_ else best.getD s.toNat 0 + wait) ≤ t)
/-- has one boarded behind the first places -/
def onB (best : List Int) (frm at_ wait : Int) (r : RideD) : Nat → Bool
  | 0 => false
  | k + 1 => onB best frm at_ wait r k || boardB best frm at_ wait (r.stops.getD k 0) (r.times.getD k 0)
/-- the times behind the first places -/
def nextT (best : List Int) (frm at_ wait : Int) (r : RideD) (next : List Int) : Nat → List Int
  | 0 => next
  | k + 1 => let n := nextT best frm at_ wait r next k
    if onB best frm at_ wait r k then n.set (r.stops.getD k 0).toNat (lowF (n.getD (r.stops.getD k 0).toNat 0) (r.times.getD k 0)) else n
def roundT (best : List Int) (frm at_ wait : Int) (rs : List RideD) : Nat → List Int
  | 0 => best
  | i + 1 => let n := roundT best frm at_ wait rs i
    match rs[i]? with
    | some r => nextT best frm at_ wait r n r.stops.length
    | none => n
def arrT (N : Nat) (rs : List RideD) (ch frm at_ : Int) : Nat → List Int
  | 0 => (List.replicate N (-1)).set frm.toNat at_
  | k + 1 => roundT (arrT N rs ch frm at_ k) frm at_ (if k = 0 then 0 else ch) rs rs.length
theorem nextT_len (best : List Int) (frm at_ wait : Int) (r : RideD) (next : List Int) : ∀ k, (nextT best frm at_ wait r next k).length = next.length
  | 0 => rfl
  | k + 1 => by simp only [nextT]; split <;> simp [nextT_len best frm at_ wait r next k]
theorem roundT_len (best : List Int) (frm at_ wait : Int) (rs : List RideD) : ∀ k, (roundT best frm at_ wait rs k).length = best.length
  | 0 => rfl
  | k + 1 => by
    simp only [roundT]
    split
    · rw [nextT_len]; exact roundT_len best frm at_ wait rs k
    · exact roundT_len best frm at_ wait rs k
theorem arrT_len (N : Nat) (rs : List RideD) (ch frm at_ : Int) : ∀ k, (arrT N rs ch frm at_ k).length = N
  | 0 => by simp [arrT]
  | k + 1 => by simp only [arrT]; rw [roundT_len]; exact arrT_len N rs ch frm at_ k

theorem getD_set (xs : List Int) (i j : Nat) (v : Int) (hi : i < xs.length) : (xs.set i v).getD j 0 = if i = j then v else xs.getD j 0 := by
  simp only [List.getD_eq_getElem?_getD, List.getElem?_set]
  by_cases h : i = j
  · subst h; simp [hi]
  · simp [h]

/-- the rides' stops and times are in range -/
structure RidesIn (N : Nat) (rs : List RideD) : Prop where
  stop : ∀ r ∈ rs, ∀ s ∈ r.stops, 0 ≤ s ∧ s < (N : Int)
  time : ∀ r ∈ rs, ∀ t ∈ r.times, 0 ≤ t ∧ t ≤ 2400
theorem getD_mem {xs : List Int} {k : Nat} (h : k < xs.length) : xs.getD k 0 ∈ xs := by
  rw [List.getD_eq_getElem?_getD, List.getElem?_eq_getElem h]; exact List.getElem_mem h

section
variable {N : Nat} {rs : List RideD} {ch frm at_ : Int}
/-- what is reached: the stop itself, and the ends of chains -/
def Got (rs : List RideD) (ch frm at_ : Int) (n : Nat) (s y : Int) : Prop := ∃ c, Chain (allLegs rs) ch frm at_ c ∧ c.length ≤ n ∧ endS frm c = s ∧ endT at_ c = y
/-- boarded at a place of a ride -/
def Bds (best : List Int) (frm at_ wait : Int) (r : RideD) (k : Nat) : Prop := ∃ i, i < k ∧ boardB best frm at_ wait (r.stops.getD i 0) (r.times.getD i 0) = true
theorem onB_iff (best : List Int) (frm at_ wait : Int) (r : RideD) : ∀ k, onB best frm at_ wait r k = true ↔ Bds best frm at_ wait r k
  | 0 => by simp [onB, Bds]
  | k + 1 => by
    rw [onB, Bool.or_eq_true, onB_iff best frm at_ wait r k]
    constructor
    · rintro (⟨i, hi, h⟩ | h)
      · exact ⟨i, by omega, h⟩
      · exact ⟨k, by omega, h⟩
    · rintro ⟨i, hi, h⟩
      by_cases e : i = k
      · subst e; exact .inr h
      · exact .inl ⟨i, by omega, h⟩
/-- the places of a ride that are reached by riding it -/
def Rode (best : List Int) (frm at_ wait : Int) (r : RideD) (k : Nat) (s y : Int) : Prop := ∃ j, j < k ∧ Bds best frm at_ wait r j ∧ r.stops.getD j 0 = s ∧ r.times.getD j 0 = y
theorem next_min (best : List Int) (wait : Int) (r : RideD) (hr : RideOk r) (hst : ∀ s ∈ r.stops, 0 ≤ s ∧ s < (N : Int)) (htm : ∀ t ∈ r.times, 0 ≤ t ∧ t ≤ 2400) (next : List Int) (hn : next.length = N) (S : Int → Int → Prop)
    (h : ∀ s, 0 ≤ s → s < (N : Int) → IsMin (S s) (next.getD s.toNat 0)) : ∀ k, k ≤ r.stops.length → ∀ s, 0 ≤ s → s < (N : Int) → IsMin (fun y => S s y ∨ Rode best frm at_ wait r k s y) ((nextT best frm at_ wait r next k).getD s.toNat 0)
  | 0, _, s, h0, h1 => (h s h0 h1).congr fun y => ⟨.inl, fun hh => hh.elim id fun ⟨j, hj, _⟩ => by omega⟩
  | k + 1, hk, s, h0, h1 => by
    have ih := next_min best wait r hr hst htm next hn S h k (by omega)
    have hks := hst _ (getD_mem (k := k) (by omega))
    have hkt := htm _ (getD_mem (xs := r.times) (k := k) (by have := hr.len; omega))
    have hlen := nextT_len best frm at_ wait r next k
    simp only [nextT]
    cases hon : onB best frm at_ wait r k with
    | false =>
      rw [if_neg (by simp)]
      refine (ih s h0 h1).congr fun y => ⟨fun hh => hh.imp id (fun ⟨j, hj, h⟩ => ⟨j, by omega, h⟩), fun hh => hh.imp id (fun ⟨j, hj, h2, h⟩ => ⟨j, ?_, h2, h⟩)⟩
      by_cases e : j = k
      · subst e; rw [(onB_iff best frm at_ wait r j).2 h2] at hon; cases hon
      · omega
    | true =>
      rw [if_pos rfl, getD_set _ _ _ _ (by rw [hlen, hn]; omega)]
      have hb := (onB_iff best frm at_ wait r k).1 hon
      by_cases e : (r.stops.getD k 0).toNat = s.toNat
      · rw [if_pos e]
        have e' : r.stops.getD k 0 = s := by omega
        rw [e']
        refine ((ih s h0 h1).low hkt.1).congr fun y => ⟨?_, ?_⟩
        · rintro ((hh | ⟨j, hj, hh⟩) | rfl)
          · exact .inl hh
          · exact .inr ⟨j, by omega, hh⟩
          · exact .inr ⟨k, by omega, hb, e', rfl⟩
        · rintro (hh | ⟨j, hj, h2, h3, h4⟩)
          · exact .inl (.inl hh)
          · by_cases ej : j = k
            · subst ej; exact .inr h4.symm
            · exact .inl (.inr ⟨j, by omega, h2, h3, h4⟩)
      · rw [if_neg e]
        refine (ih s h0 h1).congr fun y => ⟨fun hh => hh.imp id (fun ⟨j, hj, h⟩ => ⟨j, by omega, h⟩), fun hh => hh.imp id (fun ⟨j, hj, h2, h3, h4⟩ => ⟨j, ?_, h2, h3, h4⟩)⟩
        by_cases ej : j = k
        · subst ej; rw [h3] at e; exact absurd rfl e
        · omega
theorem round_min (best : List Int) (wait : Int) (hrs : RidesOk rs) (hin : RidesIn N rs) (hn : best.length = N) (S : Int → Int → Prop)
    (h : ∀ s, 0 ≤ s → s < (N : Int) → IsMin (S s) (best.getD s.toNat 0)) : ∀ i, i ≤ rs.length → ∀ s, 0 ≤ s → s < (N : Int) → IsMin (fun y => S s y ∨ ∃ r ∈ rs.take i, Rode best frm at_ wait r r.stops.length s y) ((roundT best frm at_ wait rs i).getD s.toNat 0)
  | 0, _, s, h0, h1 => (h s h0 h1).congr fun y => ⟨.inl, fun hh => hh.elim id fun ⟨r, hr, _⟩ => by simp at hr⟩
  | i + 1, hi, s, h0, h1 => by
    have ih := round_min best wait hrs hin hn S h i (by omega)
    have hlt : i < rs.length := by omega
    simp only [roundT, List.getElem?_eq_getElem hlt]
    have hm := List.getElem_mem hlt
    refine (next_min best wait rs[i] (hrs.each _ hm) (hin.stop _ hm) (hin.time _ hm) _ (by rw [roundT_len]; exact hn) _ ih _ (Nat.le_refl _) s h0 h1).congr fun y => ?_
    rw [List.take_succ_eq_append_getElem hlt]
    simp only [List.mem_append, List.mem_singleton]
    constructor
    · rintro ((hh | ⟨r, hr, hh⟩) | hh)
      · exact .inl hh
      · exact .inr ⟨r, .inl hr, hh⟩
      · exact .inr ⟨_, .inr rfl, hh⟩
    · rintro (hh | ⟨r, hr | rfl, hh⟩)
      · exact .inl (.inl hh)
      · exact .inl (.inr ⟨r, hr, hh⟩)
      · exact .inr hh
theorem boardB_iff (best : List Int) (frm at_ wait s t : Int) : boardB best frm at_ wait s t = true ↔ 0 ≤ best.getD s.toNat 0 ∧ (if s = frm then at_ else best.getD s.toNat 0 + wait) ≤ t := by unfold boardB; exact decide_eq_true_iff

/-- the times behind n rounds are the least that chains of at most n legs reach -/
theorem arr_min (hrs : RidesOk rs) (hin : RidesIn N rs) (hch : 0 ≤ ch) (hf0 : 0 ≤ frm) (hf1 : frm < (N : Int)) (hat : 0 ≤ at_) : ∀ n s, 0 ≤ s → s < (N : Int) → IsMin (Got rs ch frm at_ n s) ((arrT N rs ch frm at_ n).getD s.toNat 0)
  | 0, s, h0, h1 => by
    have hg : ∀ y, Got rs ch frm at_ 0 s y ↔ s = frm ∧ y = at_ := fun y => by
      constructor
      · rintro ⟨c, _, hl, h2, h3⟩
        obtain rfl := List.eq_nil_of_length_eq_zero (by omega : c.length = 0)
        exact ⟨h2.symm, h3.symm⟩
      · rintro ⟨rfl, rfl⟩
        exact ⟨[], trivial, Nat.le_refl _, rfl, rfl⟩
    show IsMin _ (((List.replicate N (-1 : Int)).set frm.toNat at_).getD s.toNat 0)
    rw [getD_set _ _ _ _ (by simp; omega)]
    by_cases e : frm.toNat = s.toNat
    · rw [if_pos e]
      exact .inr ⟨hat, (hg _).2 ⟨by omega, rfl⟩, fun y hy => by have := (hg y).1 hy; omega⟩
    · rw [if_neg e]
      refine .inl ⟨?_, fun y hy => by have := (hg y).1 hy; omega⟩
      rw [List.getD_eq_getElem?_getD, List.getElem?_replicate]
      rw [if_pos (by omega)]; rfl
  | n + 1, s, h0, h1 => by
    have ih := arr_min hrs hin hch hf0 hf1 hat n
    have hlen := arrT_len N rs ch frm at_ n
    show IsMin _ ((roundT (arrT N rs ch frm at_ n) frm at_ (if n = 0 then 0 else ch) rs rs.length).getD s.toNat 0)
    refine (round_min _ _ hrs hin hlen _ ih rs.length (Nat.le_refl _) s h0 h1).congr fun y => ?_
    rw [List.take_length]
    have hlt : ∀ l ∈ allLegs rs, l.dep < l.arr := fun l hl => hrs.leg_lt hl
    constructor
    · rintro (⟨c, h1, h2, h3, h4⟩ | ⟨r, hr, j, hj, ⟨i, hij, hb⟩, hs, hy⟩)
      · exact ⟨c, h1, by omega, h3, h4⟩
      · have hb := (boardB_iff _ _ _ _ _ _).1 hb
        have hi1 := hin.stop r hr _ (getD_mem (k := i) (by omega))
        by_cases e : r.stops.getD i 0 = frm
        · rw [if_pos e] at hb
          refine ⟨[legR r i j], ⟨mem_allLegs.2 ⟨r, hr, i, j, hij, hj, rfl⟩, e, hb.2, trivial⟩, by simp, hs, hy⟩
        · rw [if_neg e] at hb
          rcases ih _ hi1.1 hi1.2 with ⟨hx, _⟩ | ⟨_, ⟨c, hc, hcl, hcs, hct⟩, _⟩
          · omega
          · have hne : c ≠ [] := fun e' => by subst e'; exact e hcs.symm
            have hn0 : n ≠ 0 := fun e' => by subst e'; exact hne (List.eq_nil_of_length_eq_zero (by omega))
            rw [if_neg hn0] at hb
            have hrd : readyT ch at_ c = endT at_ c + ch := by cases c with | nil => exact absurd rfl hne | cons x c => rfl
            refine ⟨c ++ [legR r i j], (chain_snoc _ _ _ _ _ _).2 ⟨hc, mem_allLegs.2 ⟨r, hr, i, j, hij, hj, rfl⟩, hcs.symm, ?_⟩, by simp; omega, by rw [endS_snoc]; exact hs, by rw [endT_snoc]; exact hy⟩
            rw [hrd, hct]; exact hb.2
    · rintro ⟨c, hc, hcl, hcs, hct⟩
      rcases List.eq_nil_or_concat c with rfl | ⟨d, l, rfl⟩
      · exact .inl ⟨[], trivial, by simp, hcs, hct⟩
      · rw [List.concat_eq_append] at *
        obtain ⟨hd, hl, hf, hrdy⟩ := (chain_snoc _ _ _ _ _ _).1 hc
        obtain ⟨r, hr, i, j, hij, hj, rfl⟩ := mem_allLegs.1 hl
        rw [endS_snoc] at hcs
        rw [endT_snoc] at hct
        have hdl : d.length ≤ n := by simp at hcl; omega
        refine .inr ⟨r, hr, j, hj, ⟨i, hij, (boardB_iff _ _ _ _ _ _).2 ?_⟩, hcs, hct⟩
        have hi1 := hin.stop r hr _ (getD_mem (k := i) (by omega))
        have hf' : r.stops.getD i 0 = endS frm d := hf
        have hgot : Got rs ch frm at_ n (r.stops.getD i 0) (endT at_ d) := ⟨d, hd, hdl, hf'.symm, rfl⟩
        have hdep : readyT ch at_ d ≤ r.times.getD i 0 := hrdy
        rcases ih _ hi1.1 hi1.2 with ⟨_, hx⟩ | ⟨hx0, _, hx⟩
        · exact (hx _ hgot).elim
        · refine ⟨hx0, ?_⟩
          have hle := hx _ hgot
          have hend := chain_end _ ch hch hlt d _ _ hd
          cases d with
          | nil =>
            have hs : r.stops.getD i 0 = frm := hf'
            rw [if_pos hs]; exact hdep
          | cons x d =>
            have hrd : readyT ch at_ (x :: d) = endT at_ (x :: d) + ch := rfl
            rw [hrd] at hdep
            split
            · omega
            · have hn0 : n ≠ 0 := fun e' => by subst e'; simp at hdl
              rw [if_neg hn0]; omega
end
section
variable {N : Nat} {rs : List RideD} {ch frm at_ : Int}
theorem RidesOk.same (hrs : RidesOk rs) : ∀ a ∈ allLegs rs, ∀ b ∈ allLegs rs, rideEq a b → a = b := fun a ha b hb h => hrs.leg_eq ha hb h.1 h.2.1 h.2.2
theorem endT_ne {c : List LegD} (h : c ≠ []) (t u : Int) : endT t c = endT u c := by cases c with | nil => exact absurd rfl h | cons x c => rfl
/-- the end of the first journey -/
def endO : Option (List LegD) → Int
  | none => -1
  | some c => endT 0 c
theorem best_min (hrs : RidesOk rs) (hch : 0 ≤ ch) (hat : 0 ≤ at_) {too : Int} (hne : frm ≠ too) (n : Nat) : IsMin (Got rs ch frm at_ n too) (endO (bestF (allLegs rs) ch too n frm at_)) := by
  have hlt : ∀ l ∈ allLegs rs, l.dep < l.arr := fun l hl => hrs.leg_lt hl
  cases hb : bestF (allLegs rs) ch too n frm at_ with
  | none =>
    refine .inl ⟨rfl, ?_⟩
    rintro y ⟨c, hc, hl, hs, ht⟩
    have hcn : c ≠ [] := fun e => by subst e; exact hne hs
    obtain ⟨b, h, _⟩ := best_opt hrs.same ch too hch hlt n frm at_ c hcn hc hl hs
    rw [hb] at h; cases h
  | some b =>
    obtain ⟨h1, h2, h3, h4⟩ := best_sound ch too n frm at_ b hb
    have e : endT 0 b = endT at_ b := endT_ne h1 _ _
    refine .inr ⟨?_, ⟨b, h2, h3, h4, e.symm⟩, ?_⟩
    · have := chain_end _ ch hch hlt b _ _ h2
      show 0 ≤ endT 0 b
      omega
    · rintro y ⟨c, hc, hl, hs, ht⟩
      have hcn : c ≠ [] := fun e => by subst e; exact hne hs
      obtain ⟨b', h, hle⟩ := best_opt hrs.same ch too hch hlt n frm at_ c hcn hc hl hs
      rw [hb] at h
      cases h
      have e2 : endT 0 c = endT at_ c := endT_ne hcn _ _
      show endT 0 b ≤ y
      unfold JLe JLt at hle
      omega
theorem arr_self (hrs : RidesOk rs) (hch : 0 ≤ ch) (hat : 0 ≤ at_) (n : Nat) : IsMin (Got rs ch frm at_ n frm) at_ := by
  refine .inr ⟨hat, ⟨[], trivial, by simp, rfl, rfl⟩, ?_⟩
  rintro y ⟨c, hc, hl, hs, ht⟩
  have := chain_end _ ch hch (fun l hl => hrs.leg_lt hl) c _ _ hc
  omega
/-- the earliest arrival at a stop -/
noncomputable def arrF (rs : List RideD) (ch frm at_ too : Int) : Int := if frm = too then at_ else endO (bestF (allLegs rs) ch too 4 frm at_)
theorem arr_eq (hrs : RidesOk rs) (hin : RidesIn N rs) (hch : 0 ≤ ch) (hf0 : 0 ≤ frm) (hf1 : frm < (N : Int)) (hat : 0 ≤ at_) (n : Nat) {too : Int} (h0 : 0 ≤ too) (h1 : too < (N : Int)) :
    (arrT N rs ch frm at_ n).getD too.toNat 0 = if frm = too then at_ else endO (bestF (allLegs rs) ch too n frm at_) := by
  have h := arr_min hrs hin hch hf0 hf1 hat n too h0 h1
  by_cases e : frm = too
  · subst e
    rw [if_pos rfl]
    exact h.uniq (arr_self hrs hch hat n)
  · rw [if_neg e]
    exact h.uniq (best_min hrs hch hat e n)
/-- the list of all earliest arrivals -/
theorem arr_list (hrs : RidesOk rs) (hin : RidesIn N rs) (hch : 0 ≤ ch) (hf0 : 0 ≤ frm) (hf1 : frm < (N : Int)) (hat : 0 ≤ at_) : arrT N rs ch frm at_ 4 = (List.range N).map (fun s : Nat => arrF rs ch frm at_ (s : Int)) := by
  have hl := arrT_len N rs ch frm at_ 4
  refine List.ext_getElem (by simp [hl]) fun i hi hi' => ?_
  have := arr_eq hrs hin hch hf0 hf1 hat 4 (too := (i : Int)) (by omega) (by omega)
  rw [Int.toNat_natCast, List.getD_eq_getElem?_getD, List.getElem?_eq_getElem hi] at this
  simp only [List.getElem_map, List.getElem_range]
  exact this
end
section
variable {N : Nat} {rs : List RideD} {ch frm at_ : Int}
/-- departing at a time one is in time -/
def goodO (by_ : Int) (c : Option (List LegD)) : Bool := match c with
  | none => false
  | some c => decide (endT 0 c ≤ by_)
/-- the latest departure among legs, as the program finds it -/
def lateF (g : Int → Bool) (xs : List LegD) : Int × Bool := xs.foldl (fun a l => if g l.dep then ((if a.1 < l.dep then l.dep else a.1), true) else a) (0, false)
theorem lateF_snoc (g : Int → Bool) (xs : List LegD) (l : LegD) : lateF g (xs ++ [l]) = if g l.dep then ((if (lateF g xs).1 < l.dep then l.dep else (lateF g xs).1), true) else lateF g xs := by unfold lateF; rw [List.foldl_append]; rfl
theorem lateF_spec (g : Int → Bool) : ∀ xs : List LegD, (∀ l ∈ xs, 0 ≤ l.dep) → ((lateF g xs).2 = false ∧ (lateF g xs).1 = 0 ∧ ∀ l ∈ xs, g l.dep = false) ∨ ((lateF g xs).2 = true ∧ (∃ l ∈ xs, g l.dep = true ∧ (lateF g xs).1 = l.dep) ∧ ∀ l ∈ xs, g l.dep = true → l.dep ≤ (lateF g xs).1) := by
  intro xs
  generalize hn : xs.length = n
  induction n generalizing xs with
  | zero => intro _; obtain rfl := List.eq_nil_of_length_eq_zero hn; exact .inl ⟨rfl, rfl, fun l hl => by simp at hl⟩
  | succ n ih =>
    intro h0
    rcases List.eq_nil_or_concat xs with rfl | ⟨xs, x, rfl⟩
    · simp at hn
    rw [List.concat_eq_append] at *
    have ih := ih xs (by simpa using hn)
    have ih := ih (fun l hl => h0 l (by simp [hl]))
    have hx := h0 x (by simp)
    rw [lateF_snoc]
    cases hg : g x.dep with
    | false =>
      rw [if_neg (by simp)]
      rcases ih with ⟨h1, h2, h3⟩ | ⟨h1, ⟨l, hl, h2⟩, h3⟩
      · refine .inl ⟨h1, h2, fun l hl => ?_⟩
        rcases List.mem_append.1 hl with hl | hl
        · exact h3 l hl
        · simp at hl; subst hl; exact hg
      · refine .inr ⟨h1, ⟨l, by simp [hl], h2⟩, fun l hl hgl => ?_⟩
        rcases List.mem_append.1 hl with hl | hl
        · exact h3 l hl hgl
        · simp at hl; subst hl; rw [hg] at hgl; cases hgl
    | true =>
      rw [if_pos rfl]
      refine .inr ⟨rfl, ?_, ?_⟩
      · by_cases hlt : (lateF g xs).1 < x.dep
        · exact ⟨x, by simp, hg, if_pos hlt⟩
        · rcases ih with ⟨h1, h2, h3⟩ | ⟨h1, ⟨l, hl, h2, h4⟩, h3⟩
          · refine ⟨x, by simp, hg, ?_⟩
            show (if _ then _ else _) = _
            rw [if_neg hlt]; omega
          · exact ⟨l, by simp [hl], h2, by show (if _ then _ else _) = _; rw [if_neg hlt]; exact h4⟩
      · intro l hl hgl
        show l.dep ≤ (if _ then _ else _)
        rcases List.mem_append.1 hl with hl | hl
        · rcases ih with ⟨h1, h2, h3⟩ | ⟨h1, h2, h3⟩
          · rw [h3 l hl] at hgl; cases hgl
          · have := h3 l hl hgl
            split <;> omega
        · simp at hl; subst hl
          split <;> omega
/-- the first good time of a list, as the model finds it -/
theorem latest_eq {g : Int → Bool} {xs : List LegD} {D : List Int} (h0 : ∀ l ∈ xs, 0 ≤ l.dep) (hD : ∀ l ∈ xs, l.dep ∈ D) (hdesc : D.Pairwise (fun a b => b ≤ a)) (hg : ∀ d ∈ D, g d = true → ∃ l ∈ xs, d ≤ l.dep ∧ g l.dep = true) :
    (match D.find? g with | some d => (d, true) | none => (0, false)) = lateF g xs := by
  cases hf : D.find? g with
  | none =>
    have hn := List.find?_eq_none.1 hf
    rcases lateF_spec g xs h0 with ⟨h1, h2, h3⟩ | ⟨h1, ⟨l, hl, h2, h4⟩, h3⟩
    · show (0, false) = lateF g xs
      rw [← h1, ← h2]
    · exact (hn _ (hD l hl) h2).elim
  | some d =>
    have hm := List.mem_of_find?_eq_some hf
    have hgd := List.find?_some hf
    obtain ⟨l, hl, hle, hgl⟩ := hg d hm hgd
    -- d is the greatest good one
    have hmax : ∀ e ∈ D, g e = true → e ≤ d := by
      obtain ⟨_, pre1, bs, e, hno⟩ := List.find?_eq_some_iff_append.1 hf
      subst e
      intro e he hge
      rcases List.mem_append.1 he with he | he
      · have := hno e he; simp [hge] at this
      · rcases List.mem_cons.1 he with rfl | he
        · exact Int.le_refl _
        · have := List.pairwise_append.1 hdesc
          exact (List.pairwise_cons.1 this.2.1).1 e he
    have e1 := hmax _ (hD l hl) hgl
    rcases lateF_spec g xs h0 with ⟨h1, h2, h3⟩ | ⟨h1, ⟨m, hm', h2, h4⟩, h3⟩
    · rw [h3 l hl] at hgl; cases hgl
    · have e2 := h3 l hl hgl
      have e3 := hmax _ (hD m hm') h2
      show (d, true) = lateF g xs
      rw [← h1]
      have : d = (lateF g xs).1 := by omega
      rw [this]
/-- good at a time: a chain in time -/
theorem good_iff (hrs : RidesOk rs) (hch : 0 ≤ ch) (hat : 0 ≤ at_) {too by_ : Int} (hne : frm ≠ too) (n : Nat) : goodO by_ (bestF (allLegs rs) ch too n frm at_) = true ↔ ∃ c, c ≠ [] ∧ Chain (allLegs rs) ch frm at_ c ∧ c.length ≤ n ∧ endS frm c = too ∧ endT 0 c ≤ by_ := by
  have hlt : ∀ l ∈ allLegs rs, l.dep < l.arr := fun l hl => hrs.leg_lt hl
  constructor
  · intro h
    cases hb : bestF (allLegs rs) ch too n frm at_ with
    | none => rw [hb] at h; simp [goodO] at h
    | some b =>
      rw [hb] at h
      obtain ⟨h1, h2, h3, h4⟩ := best_sound ch too n frm at_ b hb
      exact ⟨b, h1, h2, h3, h4, by simpa [goodO] using h⟩
  · rintro ⟨c, h1, h2, h3, h4, h5⟩
    obtain ⟨b, h, hle⟩ := best_opt hrs.same ch too hch hlt n frm at_ c h1 h2 h3 h4
    rw [h]
    simp only [goodO, decide_eq_true_eq]
    unfold JLe JLt at hle
    omega
theorem good_step (hrs : RidesOk rs) (hch : 0 ≤ ch) (hat : 0 ≤ at_) {too by_ : Int} (hne : frm ≠ too) (n : Nat) (h : goodO by_ (bestF (allLegs rs) ch too n frm at_) = true) (hpos : ∀ l ∈ allLegs rs, 0 ≤ l.dep) :
    ∃ l ∈ (allLegs rs).filter (fun l => l.frm = frm), at_ ≤ l.dep ∧ goodO by_ (bestF (allLegs rs) ch too n frm l.dep) = true := by
  obtain ⟨c, h1, h2, h3, h4, h5⟩ := (good_iff hrs hch hat hne n).1 h
  cases c with
  | nil => exact absurd rfl h1
  | cons l c =>
    obtain ⟨g1, g2, g3, g4⟩ := h2
    exact ⟨l, by simp [g1, g2], g3, (good_iff hrs hch (hpos l g1) hne n).2 ⟨l :: c, h1, ⟨g1, g2, Int.le_refl _, g4⟩, h3, h4, h5⟩⟩
end
/-! the first journey of some legs, as the model searches for it -/
/-- a search among candidates: the first one found -/
def dfsF (cands : List LegD → Int → Int → List LegD) (ch too arrive : Int) : Nat → List LegD → Int → Int → Option (List LegD)
  | 0, _, _, _ => none
  | n + 1, used, s, t => (cands used s t).findSome? fun l =>
      if n = 0 then (if l.dst = too ∧ l.arr = arrive then some [l] else none) else (dfsF cands ch too arrive n (used ++ [l]) l.dst (l.arr + ch)).map (l :: ·)
section
variable {L : List LegD} {ch too arrive : Int}
/-- what is searched for -/
def Want (L : List LegD) (ch too arrive : Int) (used : List LegD) (n : Nat) (s t : Int) (c : List LegD) : Prop :=
  Chain L ch s t c ∧ c.length = n ∧ endS s c = too ∧ endT 0 c = arrive ∧ c.Pairwise (fun a b => a.trip ≠ b.trip) ∧ ∀ a ∈ used, ∀ b ∈ c, a.trip ≠ b.trip
/-- the candidates: all legs that can be next, in order -/
structure CandsOk (L : List LegD) (arrive : Int) (cands : List LegD → Int → Int → List LegD) : Prop where
  mem : ∀ used s t l, l ∈ cands used s t ↔ l ∈ L ∧ l.frm = s ∧ t ≤ l.dep ∧ l.arr ≤ arrive ∧ ∀ a ∈ used, a.trip ≠ l.trip
  asc : ∀ used s t, (cands used s t).Pairwise rideLt
theorem findSome_split {α β : Type} {f : α → Option β} : ∀ {xs : List α} {y : β}, xs.findSome? f = some y → ∃ pre1 x bs, xs = pre1 ++ x :: bs ∧ f x = some y ∧ ∀ z ∈ pre1, f z = none
  | [], y, h => by simp at h
  | x :: xs, y, h => by
    rw [List.findSome?_cons] at h
    cases hx : f x with
    | some z => rw [hx] at h; cases h; exact ⟨[], x, xs, rfl, hx, fun z hz => by simp at hz⟩
    | none =>
      rw [hx] at h
      obtain ⟨pre1, u, bs, e, h1, h2⟩ := findSome_split (xs := xs) h
      exact ⟨x :: pre1, u, bs, by rw [e]; rfl, h1, fun z hz => by rcases List.mem_cons.1 hz with rfl | hz; exact hx; exact h2 z hz⟩
theorem dfs_ok (h0 : 0 ≤ ch) (hT : ∀ l ∈ L, l.dep < l.arr) {cands : List LegD → Int → Int → List LegD} (hC : CandsOk L arrive cands) : ∀ (n : Nat) (used : List LegD) (s t : Int), 0 < n →
    (dfsF cands ch too arrive n used s t = none → ∀ c, ¬ Want L ch too arrive used n s t c) ∧
    (∀ c, dfsF cands ch too arrive n used s t = some c → Want L ch too arrive used n s t c ∧ ∀ d, Want L ch too arrive used n s t d → ¬ lexLt d c)
  | 0, _, _, _, h => by omega
  | n + 1, used, s, t, _ => by
    -- the first leg of what is wanted is a candidate
    have first : ∀ l c, Want L ch too arrive used (n + 1) s t (l :: c) → l ∈ cands used s t ∧ (if n = 0 then c = [] ∧ l.dst = too ∧ l.arr = arrive else Want L ch too arrive (used ++ [l]) n l.dst (l.arr + ch) c) := by
      rintro l c ⟨⟨h1, h2, h3, h4⟩, hl, hs, ht, hp, hu⟩
      have hle : l.arr ≤ arrive := by
        have := chain_end L ch h0 hT c _ _ h4
        cases c with
        | nil => have : l.arr = arrive := ht; omega
        | cons x c => have e : endT (l.arr + ch) (x :: c) = endT 0 (l :: x :: c) := rfl; omega
      refine ⟨(hC.mem used s t l).2 ⟨h1, h2, h3, hle, fun a ha => hu a ha l (by simp)⟩, ?_⟩
      by_cases hn : n = 0
      · subst hn
        rw [if_pos rfl]
        obtain rfl : c = [] := List.eq_nil_of_length_eq_zero (by simpa using hl)
        exact ⟨rfl, hs, ht⟩
      · rw [if_neg hn]
        have hc : c ≠ [] := fun e => by subst e; simp at hl; omega
        refine ⟨h4, by simpa using hl, hs, ?_, (List.pairwise_cons.1 hp).2, fun a ha b hb => ?_⟩
        · rw [← ht]; cases c with | nil => exact absurd rfl hc | cons x c => rfl
        · rcases List.mem_append.1 ha with ha | ha
          · exact hu a ha b (by simp [hb])
          · simp at ha; subst ha; exact (List.pairwise_cons.1 hp).1 b hb
    have back : ∀ l c, l ∈ cands used s t → (if n = 0 then c = [] ∧ l.dst = too ∧ l.arr = arrive else Want L ch too arrive (used ++ [l]) n l.dst (l.arr + ch) c) → Want L ch too arrive used (n + 1) s t (l :: c) := by
      intro l c hm h
      obtain ⟨h1, h2, h3, h4, h5⟩ := (hC.mem used s t l).1 hm
      by_cases hn : n = 0
      · subst hn
        rw [if_pos rfl] at h
        obtain ⟨rfl, h6, h7⟩ := h
        exact ⟨⟨h1, h2, h3, trivial⟩, rfl, h6, h7, by simp, fun a ha b hb => by simp at hb; subst hb; exact h5 a ha⟩
      · rw [if_neg hn] at h
        obtain ⟨g1, g2, g3, g4, g5, g6⟩ := h
        have hc : c ≠ [] := fun e => by subst e; simp at g2; omega
        refine ⟨⟨h1, h2, h3, g1⟩, by simpa using g2, g3, ?_, List.pairwise_cons.2 ⟨fun b hb => g6 l (by simp) b hb, g5⟩, fun a ha b hb => ?_⟩
        · rw [← g4]; cases c with | nil => exact absurd rfl hc | cons x c => rfl
        · rcases List.mem_cons.1 hb with rfl | hb
          · exact h5 a ha
          · exact g6 a (by simp [ha]) b hb
    -- what one candidate gives
    have one : ∀ l, l ∈ cands used s t → ((if n = 0 then (if l.dst = too ∧ l.arr = arrive then some [l] else none) else (dfsF cands ch too arrive n (used ++ [l]) l.dst (l.arr + ch)).map (l :: ·)) = none → ∀ c, ¬ Want L ch too arrive used (n + 1) s t (l :: c)) ∧
        (∀ e, (if n = 0 then (if l.dst = too ∧ l.arr = arrive then some [l] else none) else (dfsF cands ch too arrive n (used ++ [l]) l.dst (l.arr + ch)).map (l :: ·)) = some e → ∃ c, e = l :: c ∧ Want L ch too arrive used (n + 1) s t (l :: c) ∧ ∀ d, Want L ch too arrive used (n + 1) s t (l :: d) → ¬ lexLt d c) := by
      intro l hm
      by_cases hn : n = 0
      · subst hn
        simp only [if_pos]
        constructor
        · intro h c hw
          have := (first l c hw).2
          rw [if_pos rfl] at this
          rw [if_pos this.2] at h
          cases h
        · intro e h
          split at h
          · cases h
            refine ⟨[], rfl, back l [] hm (by rw [if_pos rfl]; exact ⟨rfl, by assumption⟩), fun d hd => ?_⟩
            have := (first l d hd).2
            rw [if_pos rfl] at this
            rw [this.1]; exact fun h => h
          · cases h
      · simp only [if_neg hn]
        obtain ⟨ih1, ih2⟩ := dfs_ok h0 hT hC n (used ++ [l]) l.dst (l.arr + ch) (by omega)
        constructor
        · intro h c hw
          have := (first l c hw).2
          rw [if_neg hn] at this
          exact ih1 (by simpa using h) c this
        · intro e h
          simp only [Option.map_eq_some_iff] at h
          obtain ⟨c, hc, rfl⟩ := h
          obtain ⟨i1, i2⟩ := ih2 c hc
          refine ⟨c, rfl, back l c hm (by rw [if_neg hn]; exact i1), fun d hd => ?_⟩
          have := (first l d hd).2
          rw [if_neg hn] at this
          exact i2 d this
    constructor
    · intro h c hw
      cases c with
      | nil => have := hw.2.1; simp at this
      | cons l c =>
        obtain ⟨hm, _⟩ := first l c hw
        have := List.findSome?_eq_none_iff.1 h l hm
        exact (one l hm).1 this c hw
    · intro c h
      obtain ⟨pre1, x, bs, e, hx, hno⟩ := findSome_split h
      have hxm : x ∈ cands used s t := by rw [e]; simp
      obtain ⟨c', rfl, hw, hmin⟩ := (one x hxm).2 c hx
      refine ⟨hw, fun d hd => ?_⟩
      cases d with
      | nil => have := hd.2.1; simp at this
      | cons y d =>
        obtain ⟨hy, _⟩ := first y d hd
        have hp := hC.asc used s t
        rw [e] at hy hp
        rintro (hlt | ⟨heq, hlt⟩)
        · rcases List.mem_append.1 hy with hy | hy
          · exact (one y (by rw [e]; simp [hy])).1 (hno y hy) d hd
          · rcases List.mem_cons.1 hy with rfl | hy
            · unfold rideLt at hlt; omega
            · have := (List.pairwise_cons.1 (List.pairwise_append.1 hp).2.1).1 y hy
              unfold rideLt at hlt this; omega
        · -- the same ride: the same place in the list
          have hxy : y = x := by
            rcases List.mem_append.1 hy with hy | hy
            · have := (List.pairwise_append.1 hp).2.2 y hy x (by simp)
              unfold rideLt at this; unfold rideEq at heq; omega
            · rcases List.mem_cons.1 hy with rfl | hy
              · rfl
              · have := (List.pairwise_cons.1 (List.pairwise_append.1 hp).2.1).1 y hy
                unfold rideLt at this; unfold rideEq at heq; omega
          subst hxy
          exact hmin d hd hlt
end
section
variable {N : Nat} {rs : List RideD} {ch frm at_ : Int}
theorem chain_app (L : List LegD) (ch : Int) : ∀ (p : List LegD) (q : List LegD) (s t : Int), Chain L ch s t (p ++ q) ↔ Chain L ch s t p ∧ Chain L ch (endS s p) (readyT ch t p) q
  | [], q, s, t => by simp [Chain, endS, readyT]
  | x :: p, q, s, t => by
    have ih := chain_app L ch p q x.dst (x.arr + ch)
    have e : readyT ch (x.arr + ch) p = readyT ch t (x :: p) := by cases p <;> rfl
    rw [e] at ih
    show x ∈ L ∧ x.frm = s ∧ t ≤ x.dep ∧ Chain L ch x.dst (x.arr + ch) (p ++ q) ↔ (x ∈ L ∧ x.frm = s ∧ t ≤ x.dep ∧ Chain L ch x.dst (x.arr + ch) p) ∧ Chain L ch (endS x.dst p) _ q
    rw [ih]
    constructor
    · rintro ⟨a, b, c, d, e⟩; exact ⟨⟨a, b, c, d⟩, e⟩
    · rintro ⟨⟨a, b, c, d⟩, e⟩; exact ⟨a, b, c, d, e⟩
theorem endS_app (s : Int) (p q : List LegD) : endS s (p ++ q) = endS (endS s p) q := by
  induction p generalizing s with
  | nil => rfl
  | cons x p ih => exact ih _
theorem endT_app (s : Int) (p q : List LegD) : endT s (p ++ q) = endT (endT s p) q := by
  induction p generalizing s with
  | nil => rfl
  | cons x p ih => exact ih _
/-- two rides on one trip can be made one -/
theorem join_rides (hrs : RidesOk rs) {x y : LegD} (hx : x ∈ allLegs rs) (hy : y ∈ allLegs rs) (he : x.trip = y.trip) (hle : x.arr ≤ y.dep) : ∃ z ∈ allLegs rs, z.frm = x.frm ∧ z.dep = x.dep ∧ z.dst = y.dst ∧ z.arr = y.arr := by
  obtain ⟨r, hr, i, j, hij, hj, rfl⟩ := mem_allLegs.1 hx
  obtain ⟨q, hq, k, m, hkm, hm, rfl⟩ := mem_allLegs.1 hy
  obtain rfl := hrs.id_eq hr hq he
  have hok := hrs.each _ hr
  have hlen := hok.len
  have hjk : j ≤ k := by
    by_cases h : k < j
    · have := hok.asc k j h (by omega)
      simp only [legR, List.getD_eq_getElem?_getD] at hle
      rw [List.getElem?_eq_getElem (by omega), List.getElem?_eq_getElem (by omega)] at hle
      simp only [Option.getD_some] at hle
      omega
    · omega
  exact ⟨legR r i m, mem_allLegs.2 ⟨r, hr, i, m, by omega, hm, rfl⟩, rfl, rfl, rfl, rfl⟩
/-- a chain that uses a trip twice is no shortest one -/
theorem not_twice (hrs : RidesOk rs) (hch : 0 ≤ ch) {c : List LegD} {s t : Int} (hc : Chain (allLegs rs) ch s t c) (hn : ¬ c.Pairwise (fun a b => a.trip ≠ b.trip)) : ∃ d, Chain (allLegs rs) ch s t d ∧ d ≠ [] ∧ d.length < c.length ∧ endS s d = endS s c ∧ endT 0 d = endT 0 c := by
  have hlt : ∀ l ∈ allLegs rs, l.dep < l.arr := fun l hl => hrs.leg_lt hl
  -- find the two
  have split : ∃ p x q y u, c = p ++ x :: (q ++ y :: u) ∧ x.trip = y.trip := by
    clear hc
    induction c with
    | nil => exact (hn List.Pairwise.nil).elim
    | cons a c ih =>
      by_cases ha : ∀ b ∈ c, a.trip ≠ b.trip
      · obtain ⟨p, x, q, y, u, e, h⟩ := ih (fun hp => hn (List.pairwise_cons.2 ⟨ha, hp⟩))
        exact ⟨a :: p, x, q, y, u, by rw [e]; rfl, h⟩
      · have : ∃ b ∈ c, a.trip = b.trip := by
          apply Classical.byContradiction
          intro h
          exact ha fun b hb e => h ⟨b, hb, e⟩
        obtain ⟨b, hb, e⟩ := this
        obtain ⟨q, u, rfl⟩ := List.append_of_mem hb
        exact ⟨[], a, q, b, u, rfl, e⟩
  obtain ⟨p, x, q, y, u, rfl, he⟩ := split
  obtain ⟨hp, hx1, hx2, hx3, hrest⟩ := (chain_app _ _ p _ s t).1 hc
  obtain ⟨hq, hy1, hy2, hy3, hu⟩ := (chain_app _ _ q _ _ _).1 hrest
  have hle : x.arr ≤ y.dep := by
    have := chain_end _ ch hch hlt q _ _ hq
    cases q with
    | nil => have : x.arr + ch ≤ y.dep := hy3; omega
    | cons z q =>
      have e1 : readyT ch (x.arr + ch) (z :: q) = endT z.arr q + ch := rfl
      have e2 : endT (x.arr + ch) (z :: q) = endT z.arr q := rfl
      omega
  obtain ⟨z, hz, z1, z2, z3, z4⟩ := join_rides hrs hx1 hy1 he hle
  refine ⟨p ++ z :: u, (chain_app _ _ p _ s t).2 ⟨hp, hz, by rw [z1]; exact hx2, by rw [z2]; exact hx3, by rw [z3, z4]; exact hu⟩, by simp, by simp; omega, ?_, ?_⟩
  · rw [endS_app, endS_app]; show endS z.dst u = endS x.dst (q ++ y :: u); rw [endS_app, z3]; rfl
  · rw [endT_app, endT_app]; show endT z.arr u = endT x.arr (q ++ y :: u); rw [endT_app, z4]; rfl

/-- the first number of legs with which one arrives so early -/
def legsN (N : Nat) (rs : List RideD) (ch frm at_ too A : Int) : Option Nat := [1, 2, 3, 4].find? fun n => decide ((arrT N rs ch frm at_ n).getD too.toNat 0 = A)
theorem find4 (f : Nat → Bool) (m : Nat) (hm : 1 ≤ m ∧ m ≤ 4) (hy : f m = true) (hn : ∀ n, n < m → f n = false) : [1, 2, 3, 4].find? f = some m := by
  have h : m = 1 ∨ m = 2 ∨ m = 3 ∨ m = 4 := by omega
  rcases h with rfl | rfl | rfl | rfl
  · simp only [List.find?, hy]
  · simp only [List.find?, hy, hn 1 (by omega)]
  · simp only [List.find?, hy, hn 1 (by omega), hn 2 (by omega)]
  · simp only [List.find?, hy, hn 1 (by omega), hn 2 (by omega), hn 3 (by omega)]
def firstF (N : Nat) (rs : List RideD) (cands : Int → List LegD → Int → Int → List LegD) (ch frm too at_ : Int) : Option (List LegD) :=
  let A := (arrT N rs ch frm at_ 4).getD too.toNat 0
  if A < 0 then none else match legsN N rs ch frm at_ too A with
    | some n => dfsF (cands A) ch too A n [] frm at_
    | none => none
theorem first_eq (hrs : RidesOk rs) (hin : RidesIn N rs) (hch : 0 ≤ ch) (hf0 : 0 ≤ frm) (hf1 : frm < (N : Int)) (hat : 0 ≤ at_) {too : Int} (h0 : 0 ≤ too) (h1 : too < (N : Int)) (hne : frm ≠ too)
    {cands : Int → List LegD → Int → Int → List LegD} (hC : ∀ A, CandsOk (allLegs rs) A (cands A)) : firstF N rs cands ch frm too at_ = bestF (allLegs rs) ch too 4 frm at_ := by
  have hlt : ∀ l ∈ allLegs rs, l.dep < l.arr := fun l hl => hrs.leg_lt hl
  have hA := fun n => arr_eq hrs hin hch hf0 hf1 hat n h0 h1
  simp only [if_neg hne] at hA
  unfold firstF
  simp only [hA 4]
  cases hb : bestF (allLegs rs) ch too 4 frm at_ with
  | none => simp [endO]
  | some b =>
    obtain ⟨b1, b2, b3, b4⟩ := best_sound ch too 4 frm at_ b hb
    have hopt : ∀ c, c ≠ [] → Chain (allLegs rs) ch frm at_ c → c.length ≤ 4 → endS frm c = too → JLe b c := fun c c1 c2 c3 c4 => by
      obtain ⟨b', h, hle⟩ := best_opt hrs.same ch too hch hlt 4 frm at_ c c1 c2 c3 c4
      rw [hb] at h; cases h; exact hle
    have hpos : 0 ≤ endT 0 b := by
      have := chain_end _ ch hch hlt b _ _ b2
      rw [endT_ne b1 at_ 0] at this; omega
    rw [if_neg (by show ¬ endT 0 b < 0; omega)]
    show (match legsN N rs ch frm at_ too (endT 0 b) with | some n => dfsF (cands (endT 0 b)) ch too (endT 0 b) n [] frm at_ | none => none) = some b
    have hbl : 0 < b.length := by cases b with | nil => exact absurd rfl b1 | cons x b => simp
    -- the number of legs is that of the first journey
    have hyes : (arrT N rs ch frm at_ b.length).getD too.toNat 0 = endT 0 b := by
      rw [hA]
      have hm := best_min (frm := frm) hrs hch hat hne b.length
      rcases hm with ⟨h1, h2⟩ | ⟨h1, ⟨c, c1, c2, c3, c4⟩, h3⟩
      · exact (h2 _ ⟨b, b2, Nat.le_refl _, b4, rfl⟩).elim
      · have e1 := h3 _ ⟨b, b2, Nat.le_refl _, b4, rfl⟩
        have cne : c ≠ [] := fun e => by subst e; exact hne c3
        have hle := hopt c cne c1 (by omega) c3
        rw [endT_ne b1 at_ 0] at e1
        have e2 := endT_ne cne at_ 0
        unfold JLe JLt at hle
        omega
    have hno : ∀ n, n < b.length → (arrT N rs ch frm at_ n).getD too.toNat 0 ≠ endT 0 b := by
      intro n hn
      rw [hA]
      intro he
      have hm := best_min (frm := frm) hrs hch hat hne n
      rcases hm with ⟨h1, h2⟩ | ⟨h1, ⟨c, c1, c2, c3, c4⟩, h3⟩
      · omega
      · have cne : c ≠ [] := fun e => by subst e; exact hne c3
        have hle := hopt c cne c1 (by omega) c3
        have e2 := endT_ne cne at_ 0
        unfold JLe JLt at hle
        omega
    have hlegs : legsN N rs ch frm at_ too (endT 0 b) = some b.length := by
      exact find4 _ _ (by omega) (by simpa using hyes) (fun n hn => by simpa using hno n hn)
    rw [hlegs]
    show dfsF (cands (endT 0 b)) ch too (endT 0 b) b.length [] frm at_ = some b
    obtain ⟨d1, d2⟩ := dfs_ok (too := too) hch hlt (hC (endT 0 b)) b.length [] frm at_ hbl
    have hw : Want (allLegs rs) ch too (endT 0 b) [] b.length frm at_ b := by
      refine ⟨b2, rfl, b4, rfl, ?_, fun a ha => by simp at ha⟩
      apply Classical.byContradiction
      intro hn
      obtain ⟨d, e1, e2, e3, e4, e5⟩ := not_twice hrs hch b2 hn
      have := hopt d e2 e1 (by omega) (by rw [e4]; exact b4)
      unfold JLe JLt at this
      omega
    cases hd : dfsF (cands (endT 0 b)) ch too (endT 0 b) b.length [] frm at_ with
    | none => exact (d1 hd b hw).elim
    | some c =>
      obtain ⟨⟨c1, c2, c3, c4, _⟩, hmin⟩ := d2 c hd
      have h1 := hmin b hw
      have cne : c ≠ [] := fun e => by subst e; simp at c2; omega
      have h2 := hopt c cne c1 (by omega) c3
      have h3 : ¬ lexLt c b := fun h => h2 (.inr ⟨c4, .inr ⟨c2, h⟩⟩)
      rw [lex_same hrs.same (chain_mem c1) (chain_mem b2) c2 h3 h1]
end
section
variable {N : Nat} {rs : List RideD} {ch frm at_ : Int}
/-- one more leg of a ride to a stop -/
def candO (A : Int) (r : RideD) (s q : Int) : Option LegD := if r.stops.idxOf s < r.stops.idxOf q ∧ r.stops.idxOf q < r.stops.length ∧ r.times.getD (r.stops.idxOf q) 0 ≤ A then some (legR r (r.stops.idxOf s) (r.stops.idxOf q)) else none
/-- may one board this ride -/
def rideOkB (r : RideD) (used : List LegD) (s t : Int) : Bool := !used.any (fun l => l.trip == r.id) && decide (s ∈ r.stops) && decide (t ≤ r.times.getD (r.stops.idxOf s) 0)
def candR (N : Nat) (A : Int) (r : RideD) (used : List LegD) (s t : Int) : List LegD := if rideOkB r used s t then (List.range N).filterMap (fun q : Nat => candO A r s (q : Int)) else []
def candsF (N : Nat) (rs : List RideD) (A : Int) (used : List LegD) (s t : Int) : List LegD := rs.flatMap fun r => candR N A r used s t
theorem idx_get {xs : List Int} (h : xs.Nodup) {i : Nat} (hi : i < xs.length) : xs.idxOf (xs.getD i 0) = i := by
  rw [List.getD_eq_getElem?_getD, List.getElem?_eq_getElem hi, Option.getD_some]
  exact h.idxOf_getElem i hi
theorem get_idx {xs : List Int} {s : Int} (h : s ∈ xs) : xs.getD (xs.idxOf s) 0 = s := by
  have := List.idxOf_lt_length_iff.2 h
  rw [List.getD_eq_getElem?_getD, List.getElem?_eq_getElem this, Option.getD_some]
  exact List.getElem_idxOf this
theorem rideOkB_iff {r : RideD} {used : List LegD} {s t : Int} : rideOkB r used s t = true ↔ (∀ a ∈ used, a.trip ≠ r.id) ∧ s ∈ r.stops ∧ t ≤ r.times.getD (r.stops.idxOf s) 0 := by
  unfold rideOkB
  simp only [Bool.and_eq_true, Bool.not_eq_true', decide_eq_true_eq, List.any_eq_false, beq_iff_eq, and_assoc]
theorem cands_ok (hrs : RidesOk rs) (hin : RidesIn N rs) (A : Int) : CandsOk (allLegs rs) A (candsF N rs A) := by
  constructor
  · intro used s t l
    unfold candsF
    rw [List.mem_flatMap]
    constructor
    · rintro ⟨r, hr, h⟩
      unfold candR at h
      split at h
      · rename_i hok
        obtain ⟨h1, h2, h3⟩ := rideOkB_iff.1 hok
        obtain ⟨q, hq, h⟩ := List.mem_filterMap.1 h
        unfold candO at h
        split at h
        · rename_i hc
          cases h
          exact ⟨mem_allLegs.2 ⟨r, hr, _, _, hc.1, hc.2.1, rfl⟩, get_idx h2, h3, hc.2.2, h1⟩
        · cases h
      · simp at h
    · rintro ⟨h1, h2, h3, h4, h5⟩
      obtain ⟨r, hr, i, j, hij, hj, rfl⟩ := mem_allLegs.1 h1
      have hn := (hrs.each r hr).nodup
      subst h2
      have ei : r.stops.idxOf (r.stops.getD i 0) = i := idx_get hn (by omega)
      have ej : r.stops.idxOf (r.stops.getD j 0) = j := idx_get hn hj
      refine ⟨r, hr, ?_⟩
      unfold candR
      show legR r i j ∈ if rideOkB r used (r.stops.getD i 0) t = true then _ else _
      have hok : rideOkB r used (r.stops.getD i 0) t = true := rideOkB_iff.2 ⟨h5, getD_mem (by omega), by rw [ei]; exact h3⟩
      rw [if_pos hok]
      obtain ⟨g1, g2⟩ := hin.stop r hr _ (getD_mem hj)
      refine List.mem_filterMap.2 ⟨(r.stops.getD j 0).toNat, List.mem_range.2 (by omega), ?_⟩
      have e : ((r.stops.getD j 0).toNat : Int) = r.stops.getD j 0 := by omega
      rw [e]
      show candO A r (r.stops.getD i 0) (r.stops.getD j 0) = some (legR r i j)
      unfold candO
      rw [ei, ej, if_pos ⟨hij, hj, h4⟩]
  · intro used s t
    unfold candsF
    rw [List.pairwise_flatMap]
    refine ⟨fun r hr => ?_, hrs.ids.imp_of_mem (fun {a b} ha hb hab x hx y hy => ?_)⟩
    · unfold candR
      split
      · rw [List.pairwise_filterMap]
        refine List.pairwise_lt_range.imp (fun {p q} hpq x hx y hy => ?_)
        unfold candO at hx hy
        split at hx
        · split at hy
          · rename_i h1 h2
            cases hx; cases hy
            have e1 : r.stops.getD (r.stops.idxOf (p : Int)) 0 = (p : Int) := get_idx (List.idxOf_lt_length_iff.1 h1.2.1)
            have e2 : r.stops.getD (r.stops.idxOf (q : Int)) 0 = (q : Int) := get_idx (List.idxOf_lt_length_iff.1 h2.2.1)
            refine .inr ⟨rfl, .inr ⟨rfl, ?_⟩⟩
            show r.stops.getD _ 0 < r.stops.getD _ 0
            rw [e1, e2]; omega
          · cases hy
        · cases hx
      · exact List.Pairwise.nil
    · have hid : ∀ (r : RideD) (z : LegD), z ∈ candR N A r used s t → z.trip = r.id := fun r z hz => by
        unfold candR at hz
        split at hz
        · obtain ⟨q, hq, h⟩ := List.mem_filterMap.1 hz
          unfold candO at h
          split at h
          · cases h; rfl
          · cases h
        · simp at hz
      left
      rw [hid a x hx, hid b y hy]; exact hab
end
end Go.Proofs.Ytfgkfdkdjegaiaa.Jrn
