/-
  JOINED TEXTS, each under its own namespace line: StepRun, Until, Fst, NetP.
-/
import Derived.WalkKit
import Derived.Deep.AppendLies
import Derived.Deep.Upon
import Derived.OrdersHeld
import Derived.Deep.RegionHeld
namespace Go.Proofs.Ytfgkfdkdjegaiaa
open Go.RowKit
set_option linter.unusedVariables false

theorem step_append_run {P : Program} {ops : Array Oper} {o : Oper} {a : Act} {K : Act → World → Prop} {Q : Exit → Act → World → Prop} {E : Prop} {w w' : World} {v y v' : Value} (hgd : o.guard = none) (s x : Operand) (t : TypeId)
    (ho : o.op = .call { callee := .builtin .append, args := #[s, x], argTypes := #[t, t] }) (hs : a.eval s = v) (hx : a.eval x = y) (hr : (Builtin.append_ #[t, t] o.type #[v, y]).run P w = .ok v' w') (h : K (a.put o.dst v') w') :
    if Region.wanted o (yielded ops a.tmps) = true then Oper.wp P o a w K Q else E := by
  have hw : Region.wanted o (yielded ops a.tmps) = true := by simp [Region.wanted, hgd]
  rw [if_pos hw]
  unfold Oper.wp execOp
  simp only [ho, resolve, invoke, builtin, Sem.run_bind, Sem.run_pure, Result.andThen_ok, List.map_toArray, List.map_cons, List.map_nil, hs, hx, hr]
  exact h
end Go.Proofs.Ytfgkfdkdjegaiaa

namespace Go.Proofs.Ytfgkfdkdjegaiaa
open Go
set_option linter.unusedVariables false

section
variable {P : Program} {ops : Array Oper} {Q : Exit → Act → World → Prop} {md : Region.Mode} {S : World → Prop} {k : Nat}

def wpAnyU (P : Program) (md : Region.Mode) (ops : Array Oper) (Q : Exit → Act → World → Prop) (S : World → Prop) (k : Nat) : Nat → Array Bool → Act → World → Prop
  | 0, listed, a, w => Region.ready md ops listed = [] ∧ Q .normal a w
  | fuel + 1, listed, a, w =>
    (Region.ready md ops listed = [] → Q .normal a w) ∧
    ∀ i ∈ Region.ready md ops listed, wpOp P ops Q i (fun a' w' => ((listed.setIfInBounds i true).getD k true = false → S w') ∧ wpAnyU P md ops Q S k fuel (listed.setIfInBounds i true) a' w') a w

theorem wpAny_of_until : ∀ (fuel : Nat) (listed : Array Bool) (a : Act) (w : World), wpAnyU P md ops Q S k fuel listed a w → wpAny P md ops Q fuel listed a w
  | 0, _, _, _, h => h
  | fuel + 1, _, _, _, h => ⟨h.1, fun i hi => wpOp_mono (fun a' w' h' => wpAny_of_until fuel _ a' w' h'.2) (h.2 i hi)⟩

def waitsB (md : Region.Mode) (ops : Array Oper) (k i : Nat) : Bool := (ops[k]?.map fun o => o.after.any fun e => Region.binds md e && e.on == i).getD false
theorem waits_no {i : Nat} {listed : Array Bool} (hw : waitsB md ops k i = true) (hi : listed.getD i true = false) : k ∉ Region.ready md ops listed := fun hk => by
  obtain ⟨h0, o, ho, hall⟩ := mem_ready.1 hk
  unfold waitsB at hw
  rw [ho] at hw
  simp only [Option.map_some, Option.getD_some] at hw
  obtain ⟨e, he, h1⟩ := Array.any_eq_true'.1 hw
  rw [Bool.and_eq_true] at h1
  have h2 := hall e he h1.1
  rw [show e.on = i by simpa using h1.2] at h2
  rcases Nat.lt_or_ge i listed.size with h' | h'
  · simp [h'] at h2 hi; rw [hi] at h2; cases h2
  · simp [Array.getElem?_eq_none h'] at h2

theorem wpAnyU_first {i : Nat} {oi : Oper} {v : Value} (hi : ops[i]? = some oi) (hsel : ∀ (j : Nat) (o : Oper) cs b, ops[j]? = some o → o.op ≠ .select cs b)
    (hQ : ∀ c a w, Q (.panic c) (a.put oi.dst v) w → Q (.panic c) a w) (hw : waitsB md ops k i = true) :
    ∀ (fuel : Nat) (listed : Array Bool) (a : Act) (w : World),
      (∀ j oj, ops[j]? = some oj → j ≠ i → listed.getD j true = false → (∀ e ∈ oj.after, Region.binds md e = true → e.on ≠ i) → oi.apart ops oj = true) →
      i ∈ Region.ready md ops listed → listed.getD k true = false → YieldsIf P ops S oi v a → S w →
      wpAnyU P md ops Q S k fuel (listed.setIfInBounds i true) (a.put oi.dst v) w → wpAnyU P md ops Q S k (fuel + 1) listed a w := by
  intro fuel
  induction fuel with
  | zero =>
    intro listed a w _ hr hk hy hS H
    refine ⟨fun h => (by rw [h] at hr; cases hr), fun j hj => ?_⟩
    by_cases hji : j = i
    · subst hji; exact hy.wpOp hi hS ⟨fun _ => hS, H⟩
    · have := ready_mono hj hji
      rw [H.1] at this
      cases this
  | succ fuel ih =>
    intro listed a w hfree hr hk hy hS H
    refine ⟨fun h => (by rw [h] at hr; cases hr), fun j hj => ?_⟩
    by_cases hji : j = i
    · subst hji; exact hy.wpOp hi hS ⟨fun _ => hS, H⟩
    · have hki : k ∉ Region.ready md ops listed := waits_no hw (mem_ready.1 hr).1
      have hjk : j ≠ k := fun e => hki (e ▸ hj)
      have hik : i ≠ k := fun e => hki (e ▸ hr)
      have h1 := H.2 j (ready_mono hj hji)
      obtain ⟨hjun, oj, hoj, hall⟩ := mem_ready.1 hj
      have hnot : ∀ e ∈ oj.after, Region.binds md e = true → e.on ≠ i := fun e he hb heq => by
        have h1 := hall e he hb
        have h0 := (mem_ready.1 hr).1
        rw [heq] at h1
        rcases Nat.lt_or_ge i listed.size with h' | h'
        · simp [h'] at h0 h1; rw [h0] at h1; cases h1
        · simp [Array.getElem?_eq_none h'] at h1
      have h2 := wpOp_putIf hoj (hfree j oj hoj hji hjun hnot) (fun cs b => hsel i oi cs b hi) (fun cs b => hsel j oj cs b hoj) hQ hy h1
      have hfree' : ∀ q ok, ops[q]? = some ok → q ≠ i → (listed.setIfInBounds j true).getD q true = false →
          (∀ e ∈ ok.after, Region.binds md e = true → e.on ≠ i) → oi.apart ops ok = true := fun q ok hq hqi hun hno => by
        refine hfree q ok hq hqi ?_ hno
        by_cases hjq : j = q
        · subst hjq; exact hjun
        · rw [getD_set_ne true hjq] at hun; exact hun
      have hk1 : (listed.setIfInBounds j true).getD k true = false := by rw [getD_set_ne true hjk]; exact hk
      have hk2 : ((listed.setIfInBounds i true).setIfInBounds j true).getD k true = false := by rw [getD_set_ne true hjk, getD_set_ne true hik]; exact hk
      refine wpOp_mono (fun a' w' h3 => ⟨fun _ => h3.2.1 hk2, ih (listed.setIfInBounds j true) a' w' hfree' (ready_mono hr (Ne.symm hji)) hk1 h3.1 (h3.2.1 hk2) ?_⟩) h2
      rw [Array.setIfInBounds_comm _ _ hji]
      exact h3.2.2

theorem wpAnyU_take {i : Nat} {oi : Oper} {v : Value} {fuel : Nat} {listed : Array Bool} {a : Act} {w : World} (hi : ops[i]? = some oi)
    (hs : Region.noSelect ops = true) (hf : Region.free md ops listed i = true) (hr : (Region.ready md ops listed).contains i = true) (hw : waitsB md ops k i = true) (hk : listed.getD k true = false)
    (hQ : ∀ c a w, Q (.panic c) (a.put oi.dst v) w → Q (.panic c) a w) (hy : YieldsIf P ops S oi v a) (hS : S w)
    (h : wpAnyU P md ops Q S k fuel (listed.setIfInBounds i true) (a.put oi.dst v) w) : wpAnyU P md ops Q S k (fuel + 1) listed a w :=
  wpAnyU_first hi (Region.noSelect_spec hs) hQ hw fuel listed a w (Region.free_spec hi hf) (by simpa using hr) hk hy hS h

def AllReadyU (P : Program) (md : Region.Mode) (ops : Array Oper) (Q : Exit → Act → World → Prop) (S : World → Prop) (k : Nat) (fuel : Nat) (listed : Array Bool) (a : Act) (w : World) (rs : List Nat) : Prop :=
  ∀ i ∈ rs, wpOp P ops Q i (fun a' w' => ((listed.setIfInBounds i true).getD k true = false → S w') ∧ wpAnyU P md ops Q S k fuel (listed.setIfInBounds i true) a' w') a w
theorem AllReadyU.nil {fuel : Nat} {listed : Array Bool} {a : Act} {w : World} : AllReadyU P md ops Q S k fuel listed a w [] := fun _ h => by cases h
theorem AllReadyU.cons {fuel : Nat} {listed : Array Bool} {a : Act} {w : World} {i : Nat} {o : Oper} {rs : List Nat} (ho : ops[i]? = some o)
    (h : ∀ K' : Act → World → Prop, Shut (∀ a w, S w → (S w → wpAnyU P md ops Q S k fuel (listed.setIfInBounds i true) a w) → K' a w) → if Region.wanted o (yielded ops a.tmps) = true then Oper.wp P o a w K' Q else K' (a.put o.dst undef) w)
    (hs : AllReadyU P md ops Q S k fuel listed a w rs) : AllReadyU P md ops Q S k fuel listed a w (i :: rs) := fun j hj => by
  rcases List.mem_cons.1 hj with rfl | hj
  · exact wpOp_step ho (fun K' hK => h K' (fun a w hS hW => hK a w ⟨fun _ => hS, hW hS⟩))
  · exact hs j hj

theorem AllReadyU.last {fuel : Nat} {listed : Array Bool} {a : Act} {w : World} {i : Nat} {o : Oper} (ho : ops[i]? = some o) (hl : (listed.setIfInBounds i true).getD k true = true)
    (h : ∀ K' : Act → World → Prop, Shut (∀ a w, wpAnyU P md ops Q S k fuel (listed.setIfInBounds i true) a w → K' a w) → if Region.wanted o (yielded ops a.tmps) = true then Oper.wp P o a w K' Q else K' (a.put o.dst undef) w) :
    AllReadyU P md ops Q S k fuel listed a w [i] := fun j hj => by
  obtain rfl := List.mem_singleton.1 hj
  exact wpOp_step ho (fun K' hK => h K' (fun a w hW => hK a w ⟨(fun h0 => absurd (hl.symm.trans h0) (by simp)), hW⟩))
theorem wpAnyU_ready {rs : List Nat} {fuel : Nat} {listed : Array Bool} {a : Act} {w : World} (hr : Region.ready md ops listed = rs) (hne : rs ≠ [])
    (h : AllReadyU P md ops Q S k fuel listed a w rs) : wpAnyU P md ops Q S k (fuel + 1) listed a w :=
  ⟨fun h0 => absurd (hr ▸ h0) hne, hr ▸ h⟩
theorem wpAnyU_done {listed : Array Bool} {a : Act} {w : World} (hr : Region.ready md ops listed = []) (h : Q .normal a w) : ∀ fuel, wpAnyU P md ops Q S k fuel listed a w
  | 0 => ⟨hr, h⟩
  | _ + 1 => ⟨fun _ => h, by rw [hr]; simp⟩

theorem wp_region_until (k : Nat) {id : Nat} {a : Act} {w : World} (hm : P.follows .mixedOrders = true) (hS : S w.drew)
    (h : S w.drew → wpAnyU P .any ops Q S k ops.size (Array.replicate ops.size false) a w.drew) : (Code.region id ops true).wp P Q a w :=
  wp_region_any hm (wpAny_of_until _ _ _ _ (h hS))
end
end Go.Proofs.Ytfgkfdkdjegaiaa

namespace Go.Proofs.Ytfgkfdkdjegaiaa

def fstIdx {α : Type} [DecidableEq α] (x : α) (xs : List α) : Int := if x ∈ xs then (xs.idxOf x : Int) else -1
theorem fstIdx_none {α : Type} [DecidableEq α] {x : α} {xs : List α} (h : x ∉ xs) : fstIdx x xs = -1 := if_neg h
theorem fstIdx_hit {α : Type} [DecidableEq α] {x : α} {xs : List α} (k : Nat) (h : k < xs.length) (he : xs[k] = x) (hno : x ∉ xs.take k) : fstIdx x xs = k := by
  have hm : x ∈ xs := by rw [← he]; exact List.getElem_mem h
  have h1 : xs.idxOf x < xs.length := List.idxOf_lt_length_iff.2 hm
  have h2 : xs[xs.idxOf x] = x := List.getElem_idxOf h1
  rw [fstIdx, if_pos hm]
  have h3 : ¬ xs.idxOf x < k := fun hl => hno (by rw [← h2]; exact List.mem_take_iff_getElem.2 ⟨xs.idxOf x, by omega, by simp⟩)
  have h4 : ¬ k < xs.idxOf x := fun hl => absurd he (by
    have := List.not_of_lt_findIdx (p := fun y => y == x) (xs := xs) (i := k) (by exact hl)
    simpa using this)
  omega
theorem fstIdx_lt {α : Type} [DecidableEq α] (x : α) (xs : List α) : -1 ≤ fstIdx x xs ∧ fstIdx x xs < xs.length := by
  unfold fstIdx
  split
  · rename_i h; have := List.idxOf_lt_length_iff.2 h; omega
  · omega
theorem fstIdx_neg {α : Type} [DecidableEq α] (x : α) (xs : List α) : fstIdx x xs < 0 ↔ x ∉ xs := by
  unfold fstIdx
  split
  · rename_i h; simp [h]
  · rename_i h; simp [h]
theorem fstIdx_get {α : Type} [DecidableEq α] (x : α) (xs : List α) (h : x ∈ xs) : ∃ k : Nat, fstIdx x xs = k ∧ ∃ hk : k < xs.length, xs[k] = x ∧ x ∉ xs.take k := by
  have h1 : xs.idxOf x < xs.length := List.idxOf_lt_length_iff.2 h
  refine ⟨xs.idxOf x, by rw [fstIdx, if_pos h], h1, List.getElem_idxOf h1, fun hm => ?_⟩
  obtain ⟨j, hj, hx⟩ := List.mem_take_iff_getElem.1 hm
  have := List.not_of_lt_findIdx (p := fun y => y == x) (xs := xs) (i := j) (by show j < xs.idxOf x; omega)
  simp [hx] at this
theorem nodup_first {α : Type} [DecidableEq α] (xs : List α) : xs.Nodup ↔ ∀ k (h : k < xs.length), fstIdx xs[k] xs = k := by
  rw [List.Nodup, List.pairwise_iff_getElem]
  constructor
  · intro h k hk
    refine fstIdx_hit k hk rfl fun hm => ?_
    obtain ⟨j, hj, hx⟩ := List.mem_take_iff_getElem.1 hm
    exact h j k (by omega) hk (by omega) hx
  · intro h i j hi hj hij he
    have h1 := h i hi
    have h2 := h j hj
    rw [he] at h1
    omega
theorem nodup_take {α : Type} [DecidableEq α] (xs : List α) : xs.Nodup ↔ ∀ k (h : k < xs.length), xs[k] ∉ xs.take k := by
  rw [nodup_first]
  constructor
  · intro h k hk hm
    obtain ⟨j, hj, _, _, hn⟩ := fstIdx_get xs[k] xs (List.getElem_mem hk)
    rw [h k hk] at hj
    obtain rfl : k = j := by omega
    exact hn hm
  · intro h k hk
    exact fstIdx_hit k hk rfl (h k hk)
end Go.Proofs.Ytfgkfdkdjegaiaa

namespace Go.Proofs.Ytfgkfdkdjegaiaa

structure LineD where
  name : ByteArray
  stops : List Int
  runs : List Int
structure NetD where
  stops : List ByteArray
  lines : List LineD

def lowB (c : UInt8) : Bool := decide (97 ≤ (c.toNat : Int)) && decide ((c.toNat : Int) ≤ 122)
def digB (c : UInt8) : Bool := decide (48 ≤ (c.toNat : Int)) && decide ((c.toNat : Int) ≤ 57)

def NameOk (s : ByteArray) : Prop := 1 ≤ s.size ∧ s.size ≤ 8 ∧ ∀ k (h : k < s.size), lowB s[k] = true ∨ (k ≠ 0 ∧ digB s[k] = true)
instance (s : ByteArray) : Decidable (NameOk s) := by unfold NameOk; exact instDecidableAnd (dq := instDecidableAnd (dq := Nat.decidableBallLT _ _))
def nameB (s : ByteArray) : Bool := decide (NameOk s)
theorem nameB_yes {s : ByteArray} (h : NameOk s) : nameB s = true := decide_eq_true h
theorem nameB_no {s : ByteArray} (h : ¬ NameOk s) : nameB s = false := decide_eq_false h

def LineOk (l : LineD) (n : Nat) : Prop := (2 ≤ l.stops.length ∧ l.stops.length ≤ 6 ∧ l.runs.length + 1 = l.stops.length) ∧ (∀ s ∈ l.stops, 0 ≤ s ∧ s < (n : Int)) ∧ l.stops.Nodup ∧ ∀ r ∈ l.runs, 1 ≤ r ∧ r ≤ 60
def LineGood (l : LineD) (n : Nat) : Prop := NameOk l.name ∧ LineOk l n
instance (l : LineD) (n : Nat) : Decidable (LineOk l n) := by unfold LineOk; infer_instance
instance (l : LineD) (n : Nat) : Decidable (LineGood l n) := by unfold LineGood; infer_instance
def lineOkB (l : LineD) (n : Nat) : Bool := decide (LineOk l n)
def lineGoodB (l : LineD) (n : Nat) : Bool := decide (LineGood l n)
theorem lineOkB_yes {l : LineD} {n : Nat} (h : LineOk l n) : lineOkB l n = true := decide_eq_true h
theorem lineOkB_no {l : LineD} {n : Nat} (h : ¬ LineOk l n) : lineOkB l n = false := decide_eq_false h
theorem lineGoodB_yes {l : LineD} {n : Nat} (h : LineGood l n) : lineGoodB l n = true := decide_eq_true h
theorem lineGoodB_no {l : LineD} {n : Nat} (h : ¬ LineGood l n) : lineGoodB l n = false := decide_eq_false h

def NetGood (n : NetD) : Prop := (2 ≤ n.stops.length ∧ n.stops.length ≤ 8 ∧ 1 ≤ n.lines.length ∧ n.lines.length ≤ 5) ∧ (∀ s ∈ n.stops, NameOk s) ∧ n.stops.Nodup ∧ (∀ l ∈ n.lines, LineGood l n.stops.length) ∧ (n.lines.map (·.name)).Nodup
instance (n : NetD) : Decidable (NetGood n) := by unfold NetGood; infer_instance
def netB (n : NetD) : Bool := decide (NetGood n)
theorem netB_yes {n : NetD} (h : NetGood n) : netB n = true := decide_eq_true h
theorem netB_no {n : NetD} (h : ¬ NetGood n) : netB n = false := decide_eq_false h

theorem bytes_eq (a b : ByteArray) : (a.toList == b.toList) = decide (a = b) := by
  rw [Bool.eq_iff_iff]; simp only [beq_iff_eq, decide_eq_true_eq]
  constructor
  · intro h; rw [Go.ByteArray.toList_eq, Go.ByteArray.toList_eq] at h
    cases a; cases b; simp at h; rw [h]
  · rintro rfl; rfl
end Go.Proofs.Ytfgkfdkdjegaiaa
