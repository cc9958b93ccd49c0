/-
  JOINED TEXTS, each under its own namespace line: Slices, Fst, NetP, Plain1, Ints, Net, Find, Own, Text, IntsLaw, In, Set, IntsX.
-/
import Derived.WalkKit
import Derived.SliceStrings
import Derived.Laws.OwnMore
import Derived.Below
import Derived.Deep.QuietTactic
import Derived.ProofKit
import Derived.DataReads
import Derived.Lib.Hide
import Derived.OwnWalk
import Derived.Laws.NewBlocks
import Derived.Deep.Slices
import Derived.Deep.Fields
import Derived.Lib.SmallJoins
import Derived.ChangeSame
import Derived.Test.YtfgkfdkdjegaiaaRows
import Derived.WalkLawsBesides
import Derived.LoopTactic
import Derived.BigQuiet
import Derived.Deep.RegionHeld3
import Derived.Laws.Entries
import Derived.Maps.Own
import Derived.Maps.Views
namespace Go.Proofs.Ytfgkfdkdjegaiaa
open Go.RowKit Go.ChangeShapes Go.WideShapes Go.ChangeAt

/-- a slice value of as many elements as xs, whose cells hold xs -/
def RowAt (w : World) (v : Value) (xs : List Value) : Prop :=
  ∃ a c, v = .slice a xs.length c ∧ xs.length ≤ c ∧ c ≤ maxLen ∧ ∀ k u, xs[k]? = some u → ∃ b off, a = some ⟨b, off, none⟩ ∧ b < w.heap.size ∧ w.cell? ⟨b, off + k, none⟩ = some u

theorem RowAt.below {w w' : World} {v : Value} {xs : List Value} (h : RowAt w v xs) {B : Nat} (hB : B = w.heap.size) (hb : Below B w w') : RowAt w' v xs := by
  subst hB
  obtain ⟨a, c, hv, h1, h2, h3⟩ := h
  refine ⟨a, c, hv, h1, h2, fun k u hu => ?_⟩
  obtain ⟨b, off, ha, hlt, hc⟩ := h3 k u hu
  exact ⟨b, off, ha, Nat.lt_of_lt_of_le hlt hb.size, by rw [hb.cell (p := ⟨b, off + k, none⟩) hlt]; exact hc⟩

theorem RowAt.drewN {w : World} {v : Value} {xs : List Value} (h : RowAt w v xs) (m : Nat) : RowAt (w.drewN m) v xs := h

theorem addr_add (g o j : Nat) : (⟨g, o, none⟩ : Addr).add j = ⟨g, o + j, none⟩ := by
  by_cases h0 : j = 0
  · subst h0; simp [Addr.add]
  · simp [Addr.add, h0]

theorem rowAt_own {w : World} {B : Nat} {e : TypeId} {v : Value} {n : Nat} {xs : List Value} (h : w.ownsRow B e 1 v n xs) : RowAt w v xs := by
  have hc := fun g hg => h.cells (g := g) hg
  have hl := h.lt
  obtain ⟨hn, h2⟩ := h
  rcases h2 with ⟨hv, h0⟩ | ⟨g, cap, cur, hv, hg, hh, h1, h3, h4, h5⟩
  · subst h0
    have : xs = [] := List.eq_nil_of_length_eq_zero (by omega)
    subst this
    exact ⟨none, 0, hv, Nat.le_refl _, by decide, fun k u hu => by simp at hu⟩
  · have hn' : xs.length = n := by omega
    refine ⟨_, cap, by rw [hn']; exact hv, by omega, h3, fun k u hu => ⟨g, 0, rfl, (hl g (by rw [hv]; rfl)).2, ?_⟩⟩
    have := hc g (by rw [hv]; rfl) k u hu
    rw [addr_add] at this
    exact this

/-- what came in as a slice of strings reads as a row -/
theorem rowAt_strings {H : Type} {enc : TypeId × Value → H} {P : Program} {W : World} {base base' : Nat} {spare : Nat → Bool} {held : Bool} {t e : TypeId} {v : Value} {d : DataW H} {p : List MemPlace} (ht : P.underlying t = some (.slice e)) (he : P.underlying e = some .string) (hc : P.cellsOf e = 1)
    (hv : Value.okWide P W .any base t v) (h : DataW.Trod enc P W base' spare held t v d p) : ∃ xs : List ByteArray, RowAt W v (xs.map .string) ∧ ∀ x ∈ xs, x.size ≤ maxLen := by
  obtain ⟨a, len, cap, rfl⟩ := okWide_slice ht hv
  obtain ⟨fuel, hf⟩ := h
  rcases open_strings ht he hc hf with ⟨hcs, _⟩ | ⟨a', len', cap', ss, hcs, _, hl, hm, hz, _, hcell, hws⟩
  · simp [Value.cells] at hcs
    obtain ⟨rfl, rfl, rfl⟩ := hcs
    exact ⟨[], ⟨none, 0, rfl, Nat.le_refl _, by decide, fun k u hu => by simp at hu⟩, fun x hx => by simp at hx⟩
  · simp [Value.cells] at hcs
    obtain ⟨rfl, rfl, rfl⟩ := hcs
    have hss : len ≤ ss.length := by rw [hz]; split <;> omega
    refine ⟨ss.take len, ⟨some a', cap, by simp [Nat.min_eq_left hss], by simp; omega, hm, fun k u hu => ?_⟩, fun x hx => hws x (List.mem_of_mem_take hx)⟩
    rw [List.getElem?_map, List.getElem?_take] at hu
    split at hu
    · rename_i hk
      have hk' : k < ss.length := by omega
      rw [List.getElem?_eq_getElem hk'] at hu
      have hcl := hcell k hk'
      obtain ⟨b, off, sp⟩ := a'
      have hsp : sp = none := by
        have := World.cell?_spot (hcell 0 (by omega))
        simpa [Addr.add] using this
      subst hsp
      rw [addr_add] at hcl
      have hu' : Value.string (ss[k]) = u := by simpa using hu
      refine ⟨b, off, rfl, World.block_lt_of_cell? W _ hcl, ?_⟩
      rw [hcl, ← hu']
      simp [List.getD, List.getElem?_eq_getElem hk']
    · simp at hu

/-- only draws lie between two worlds -/
def Dr (w wr : World) : Prop := ∃ m, wr = w.drewN m
theorem Dr.refl (w : World) : Dr w w := ⟨0, rfl⟩
theorem Dr.step {w wr : World} (h : Dr w wr) (n : Nat) : Dr w (wr.drewN n) := by obtain ⟨m, rfl⟩ := h; exact ⟨m + n, by rw [World.drewN_drewN]⟩
theorem Dr.cell {w wr : World} (h : Dr w wr) (a : Addr) : wr.cell? a = w.cell? a := by obtain ⟨m, rfl⟩ := h; rfl
theorem Dr.out {w wr : World} (h : Dr w wr) : ∃ m, wr = w.drewN m := h
theorem quietL {P : Program} {f : FuncId} {args : Array Value} {w : World} {n : Nat} {v : Value} (h : Calls P f args (w.drewN n) fun e w' => e = .returned v ∧ w.drewN n = w') :
    Calls P f args (w.drewN n) fun e w'' => e = .returned v ∧ ∃ m, w'' = w.drewN m := h.mono fun _ _ ⟨he, hm⟩ => ⟨he, n, hm.symm⟩
theorem quietM {P : Program} {f : FuncId} {args : Array Value} {w : World} {m n : Nat} {v : Value} (h : ∀ W : World, Calls P f args W fun e w' => e = .returned v ∧ W = w') :
    Calls P f args (w.drewN (m + n)) fun e w'' => e = .returned v ∧ ∃ n, w'' = w.drewN (m + n) := (h _).mono fun _ _ ⟨he, hm⟩ => ⟨he, n, hm.symm⟩
theorem Dr.below {w wr : World} (h : Dr w wr) : Below w.heap.size w wr := by
  obtain ⟨m, rfl⟩ := h
  exact ⟨rfl, rfl, rfl, Nat.le_refl _, fun _ _ => rfl⟩
end Go.Proofs.Ytfgkfdkdjegaiaa

namespace Go.Proofs.Ytfgkfdkdjegaiaa

def fstIdx {α : Type} [DecidableEq α] (x : α) (xs : List α) : Int := if x ∈ xs then (xs.idxOf x : Int) else -1
theorem fstIdx_none {α : Type} [DecidableEq α] {x : α} {xs : List α} (h : x ∉ xs) : fstIdx x xs = -1 := if_neg h
theorem fstIdx_hit {α : Type} [DecidableEq α] {x : α} {xs : List α} (k : Nat) (h : k < xs.length) (he : xs[k] = x) (hno : x ∉ xs.take k) : fstIdx x xs = k := by
  have hm : x ∈ xs := by rw [← he]; exact List.getElem_mem h
  have h1 : xs.idxOf x < xs.length := List.idxOf_lt_length_iff.2 hm
  have h2 : xs[xs.idxOf x] = x := List.getElem_idxOf h1
  rw [fstIdx, if_pos hm]
  have h3 : ¬ xs.idxOf x < k := fun hl => hno (by rw [← h2]; exact List.mem_take_iff_getElem.2 ⟨xs.idxOf x, by omega, by simp⟩)
  have h4 : ¬ k < xs.idxOf x := fun hl => absurd he (by
    have := List.not_of_lt_findIdx (p := fun y => y == x) (xs := xs) (i := k) (by exact hl)
    simpa using this)
  omega
theorem fstIdx_lt {α : Type} [DecidableEq α] (x : α) (xs : List α) : -1 ≤ fstIdx x xs ∧ fstIdx x xs < xs.length := by
  unfold fstIdx
  split
  · rename_i h; have := List.idxOf_lt_length_iff.2 h; omega
  · omega
theorem fstIdx_neg {α : Type} [DecidableEq α] (x : α) (xs : List α) : fstIdx x xs < 0 ↔ x ∉ xs := by
  unfold fstIdx
  split
  · rename_i h; simp [h]
  · rename_i h; simp [h]
theorem fstIdx_get {α : Type} [DecidableEq α] (x : α) (xs : List α) (h : x ∈ xs) : ∃ k : Nat, fstIdx x xs = k ∧ ∃ hk : k < xs.length, xs[k] = x ∧ x ∉ xs.take k := by
  have h1 : xs.idxOf x < xs.length := List.idxOf_lt_length_iff.2 h
  refine ⟨xs.idxOf x, by rw [fstIdx, if_pos h], h1, List.getElem_idxOf h1, fun hm => ?_⟩
  obtain ⟨j, hj, hx⟩ := List.mem_take_iff_getElem.1 hm
  have := List.not_of_lt_findIdx (p := fun y => y == x) (xs := xs) (i := j) (by show j < xs.idxOf x; omega)
  simp [hx] at this
theorem nodup_first {α : Type} [DecidableEq α] (xs : List α) : xs.Nodup ↔ ∀ k (h : k < xs.length), fstIdx xs[k] xs = k := by
  rw [List.Nodup, List.pairwise_iff_getElem]
  constructor
  · intro h k hk
    refine fstIdx_hit k hk rfl fun hm => ?_
    obtain ⟨j, hj, hx⟩ := List.mem_take_iff_getElem.1 hm
    exact h j k (by omega) hk (by omega) hx
  · intro h i j hi hj hij he
    have h1 := h i hi
    have h2 := h j hj
    rw [he] at h1
    omega
theorem nodup_take {α : Type} [DecidableEq α] (xs : List α) : xs.Nodup ↔ ∀ k (h : k < xs.length), xs[k] ∉ xs.take k := by
  rw [nodup_first]
  constructor
  · intro h k hk hm
    obtain ⟨j, hj, _, _, hn⟩ := fstIdx_get xs[k] xs (List.getElem_mem hk)
    rw [h k hk] at hj
    obtain rfl : k = j := by omega
    exact hn hm
  · intro h k hk
    exact fstIdx_hit k hk rfl (h k hk)
end Go.Proofs.Ytfgkfdkdjegaiaa

namespace Go.Proofs.Ytfgkfdkdjegaiaa

structure LineD where
  name : ByteArray
  stops : List Int
  runs : List Int
structure NetD where
  stops : List ByteArray
  lines : List LineD

/-! names -/
def lowB (c : UInt8) : Bool := decide (97 ≤ (c.toNat : Int)) && decide ((c.toNat : Int) ≤ 122)
def digB (c : UInt8) : Bool := decide (48 ≤ (c.toNat : Int)) && decide ((c.toNat : Int) ≤ 57)
/-- a letter followed by at most seven letters or digits -/
def NameOk (s : ByteArray) : Prop := 1 ≤ s.size ∧ s.size ≤ 8 ∧ ∀ k (h : k < s.size), lowB s[k] = true ∨ (k ≠ 0 ∧ digB s[k] = true)
instance (s : ByteArray) : Decidable (NameOk s) := by unfold NameOk; exact instDecidableAnd (dq := instDecidableAnd (dq := Nat.decidableBallLT _ _))
def nameB (s : ByteArray) : Bool := decide (NameOk s)
theorem nameB_yes {s : ByteArray} (h : NameOk s) : nameB s = true := decide_eq_true h
theorem nameB_no {s : ByteArray} (h : ¬ NameOk s) : nameB s = false := decide_eq_false h

/-! lines -/
def LineOk (l : LineD) (n : Nat) : Prop := (2 ≤ l.stops.length ∧ l.stops.length ≤ 6 ∧ l.runs.length + 1 = l.stops.length) ∧ (∀ s ∈ l.stops, 0 ≤ s ∧ s < (n : Int)) ∧ l.stops.Nodup ∧ ∀ r ∈ l.runs, 1 ≤ r ∧ r ≤ 60
def LineGood (l : LineD) (n : Nat) : Prop := NameOk l.name ∧ LineOk l n
instance (l : LineD) (n : Nat) : Decidable (LineOk l n) := by unfold LineOk; infer_instance
instance (l : LineD) (n : Nat) : Decidable (LineGood l n) := by unfold LineGood; infer_instance
def lineOkB (l : LineD) (n : Nat) : Bool := decide (LineOk l n)
def lineGoodB (l : LineD) (n : Nat) : Bool := decide (LineGood l n)
theorem lineOkB_yes {l : LineD} {n : Nat} (h : LineOk l n) : lineOkB l n = true := decide_eq_true h
theorem lineOkB_no {l : LineD} {n : Nat} (h : ¬ LineOk l n) : lineOkB l n = false := decide_eq_false h
theorem lineGoodB_yes {l : LineD} {n : Nat} (h : LineGood l n) : lineGoodB l n = true := decide_eq_true h
theorem lineGoodB_no {l : LineD} {n : Nat} (h : ¬ LineGood l n) : lineGoodB l n = false := decide_eq_false h

/-! networks -/
def NetGood (n : NetD) : Prop := (2 ≤ n.stops.length ∧ n.stops.length ≤ 8 ∧ 1 ≤ n.lines.length ∧ n.lines.length ≤ 5) ∧ (∀ s ∈ n.stops, NameOk s) ∧ n.stops.Nodup ∧ (∀ l ∈ n.lines, LineGood l n.stops.length) ∧ (n.lines.map (·.name)).Nodup
instance (n : NetD) : Decidable (NetGood n) := by unfold NetGood; infer_instance
def netB (n : NetD) : Bool := decide (NetGood n)
theorem netB_yes {n : NetD} (h : NetGood n) : netB n = true := decide_eq_true h
theorem netB_no {n : NetD} (h : ¬ NetGood n) : netB n = false := decide_eq_false h

theorem bytes_eq (a b : ByteArray) : (a.toList == b.toList) = decide (a = b) := by
  rw [Bool.eq_iff_iff]; simp only [beq_iff_eq, decide_eq_true_eq]
  constructor
  · intro h; rw [Go.ByteArray.toList_eq, Go.ByteArray.toList_eq] at h
    cases a; cases b; simp at h; rw [h]
  · rintro rfl; rfl
end Go.Proofs.Ytfgkfdkdjegaiaa

namespace Go.Proofs.Ytfgkfdkdjegaiaa
open Go.RowKit

/-- the checksum of a list of bytes -/
def sumL (l : List UInt8) : Int := l.foldl (fun h c => (41 * h + (c.toNat : Int) + 1) % 999979) 7

theorem sumL_snoc (l : List UInt8) (c : UInt8) : sumL (l ++ [c]) = (41 * sumL l + (c.toNat : Int) + 1) % 999979 := by
  simp [sumL, List.foldl_append]

theorem sumL_bd (l : List UInt8) : 0 ≤ sumL l ∧ sumL l < 999979 := by
  rcases List.eq_nil_or_concat l with rfl | ⟨t, c, rfl⟩
  · decide
  · rw [List.concat_eq_append, sumL_snoc]; omega

theorem take_snoc (s : ByteArray) (k : Nat) (h : k < s.size) : s.data.toList.take (k + 1) = s.data.toList.take k ++ [s[k]] := by
  rw [List.take_succ_eq_append_getElem (by simpa using h)]; rfl

theorem ret_int {k : IntKind} {a b : Int} (h : a = b) : Ending.returned (.int k a) = .returned (.int k b) := by rw [h]
theorem ret_int_b {k : IntKind} {a b : Int} {c : Bool} (h : a = b) : Ending.returned (.tuple #[.int k a, .bool c]) = .returned (.tuple #[.int k b, .bool c]) := by rw [h]
theorem ret_bool {a b : Bool} (h : a = b) : Ending.returned (.bool a) = .returned (.bool b) := by rw [h]
theorem byte_lt (s : ByteArray) (k : Nat) (h : k < s.size) : ((s[k]'h).toNat : Int) < 256 := by have := (s[k]'h).toNat_lt; omega
end Go.Proofs.Ytfgkfdkdjegaiaa

namespace Go.Proofs.Ytfgkfdkdjegaiaa
open Go.RowKit Go.ChangeShapes Go.WideShapes Go.ChangeAt Go.Deep Go.Joins
set_option linter.unusedVariables false

def strs (xs : List ByteArray) : List Value := xs.map Value.string
def ints (zs : List Int) : List Value := zs.map (Value.int .i64)
theorem strs_len (xs : List ByteArray) : (strs xs).length = xs.length := List.length_map ..
theorem ints_len (xs : List Int) : (ints xs).length = xs.length := List.length_map ..
theorem strs_at {w : World} {a : Option Addr} {xs : List ByteArray} (h : ∀ k u, (strs xs)[k]? = some u → ∃ b off, a = some ⟨b, off, none⟩ ∧ b < w.heap.size ∧ w.cell? ⟨b, off + k, none⟩ = some u) (k : Nat) (hk : k < xs.length) :
    ∃ b off, a = some ⟨b, off, none⟩ ∧ b < w.heap.size ∧ w.cell? ⟨b, off + k, none⟩ = some (.string (xs[k]'hk)) := h k _ (by simp [strs, List.getElem?_eq_getElem hk])
theorem ints_at {w : World} {a : Option Addr} {xs : List Int} (h : ∀ k u, (ints xs)[k]? = some u → ∃ b off, a = some ⟨b, off, none⟩ ∧ b < w.heap.size ∧ w.cell? ⟨b, off + k, none⟩ = some u) (k : Nat) (hk : k < xs.length) :
    ∃ b off, a = some ⟨b, off, none⟩ ∧ b < w.heap.size ∧ w.cell? ⟨b, off + k, none⟩ = some (.int .i64 (xs[k]'hk)) := h k _ (by simp [ints, List.getElem?_eq_getElem hk])
theorem strs_open {w : World} {v : Value} {xs : List ByteArray} (h : RowAt w v (strs xs)) : ∃ a c, v = .slice a xs.length c ∧ xs.length ≤ c ∧ c ≤ 9223372036854775807 ∧
    Hid (∀ k (hk : k < xs.length), ∃ b off, a = some ⟨b, off, none⟩ ∧ b < w.heap.size ∧ w.cell? ⟨b, off + k, none⟩ = some (.string (xs[k]'hk))) := by
  obtain ⟨a, c, rfl, h1, h2, h3⟩ := h
  simp only [strs_len] at *
  exact ⟨a, c, rfl, h1, h2, strs_at h3⟩
theorem ints_open {w : World} {v : Value} {xs : List Int} (h : RowAt w v (ints xs)) : ∃ a c, v = .slice a xs.length c ∧ xs.length ≤ c ∧ c ≤ 9223372036854775807 ∧
    Hid (∀ k (hk : k < xs.length), ∃ b off, a = some ⟨b, off, none⟩ ∧ b < w.heap.size ∧ w.cell? ⟨b, off + k, none⟩ = some (.int .i64 (xs[k]'hk))) := by
  obtain ⟨a, c, rfl, h1, h2, h3⟩ := h
  simp only [ints_len] at *
  exact ⟨a, c, rfl, h1, h2, ints_at h3⟩
theorem not_take_succ {α : Type} {x : α} {xs : List α} {k : Nat} (hk : k < xs.length) (h : x ∉ xs.take k) (hne : xs[k] ≠ x) : x ∉ xs.take (k + 1) := by
  rw [List.take_succ_eq_append_getElem hk]; intro hm
  rcases List.mem_append.1 hm with g | g
  · exact h g
  · exact hne (by simpa using g : x = xs[k]).symm
theorem not_take_all {α : Type} {x : α} {xs : List α} {k : Nat} (hk : xs.length ≤ k) (h : x ∉ xs.take k) : x ∉ xs := by rwa [List.take_of_length_le hk] at h
theorem bkeep {w w' : World} {p : Addr} {x : Value} (hb : Below w.heap.size w w') (h : w.cell? p = some x) : w'.cell? p = some x := by
  rw [hb.cell (World.block_lt_of_cell? w _ h)]; exact h
theorem acell {w : World} {p : Addr} {x : Value} (h : w.cell? p = some x) (o : Obj) : (w.alloc o).cell? p = some x := by
  rw [((Below.refl w.heap.size w).alloc (Nat.le_refl _) o).cell (World.block_lt_of_cell? w _ h)]; exact h
theorem own_block {w w' : World} {B : Nat} {e : TypeId} {sz : Nat} {v : Value} {n : Nat} {xs : List Value} (h : w.ownsRow B e sz v n xs) (hb : ∀ g, v.ownBlock = some g → w'.heap[g]? = w.heap[g]?) : w'.ownsRow B e sz v n xs := by
  obtain ⟨h1, h2⟩ := h
  refine ⟨h1, ?_⟩
  rcases h2 with h2 | ⟨g, cap, cur, hv, hg, hh, r⟩
  · exact .inl h2
  · exact .inr ⟨g, cap, cur, hv, hg, (hb g (by rw [hv]; rfl)).trans hh, r⟩
theorem own_later {w w' : World} {B : Nat} {e : TypeId} {sz : Nat} {v : Value} {n : Nat} {xs : List Value} (h : w.ownsRow B e sz v n xs) (hb : Below w.heap.size w w') : w'.ownsRow B e sz v n xs :=
  own_block h (fun g hg => hb.block g (h.lt g hg).2)
theorem own_base {w : World} {B B' : Nat} {e : TypeId} {sz : Nat} {v : Value} {n : Nat} {xs : List Value} (h : w.ownsRow B e sz v n xs) (hB : B' ≤ B) : w.ownsRow B' e sz v n xs := by
  obtain ⟨h1, h2⟩ := h
  refine ⟨h1, ?_⟩
  rcases h2 with h2 | ⟨g, cap, cur, hv, hg, r⟩
  · exact .inl h2
  · exact .inr ⟨g, cap, cur, hv, Nat.le_trans hB hg, r⟩
theorem own_other {w : World} {B : Nat} {e : TypeId} {sz : Nat} {v : Value} {n : Nat} {xs : List Value} (h : w.ownsRow B e sz v n xs) {p : Addr} (hp : v.ownBlock ≠ some p.block) (u : Value) : (w.setCell p u).ownsRow B e sz v n xs :=
  own_block h (fun g hg => Below.heap_setCell w p u g (fun e => hp (by rw [hg, e])))
theorem take_set_succ {α : Type} (zs ys : List α) (k : Nat) (h : k < zs.length) (hy : k < ys.length) (he : zs.take k = ys.take k) : (zs.set k ys[k]).take (k + 1) = ys.take (k + 1) := by
  rw [List.take_succ_eq_append_getElem (by simpa using h), List.take_succ_eq_append_getElem hy, List.take_set_of_le (Nat.le_refl _), he]
  simp
theorem own_len {w : World} {B : Nat} {e : TypeId} {v : Value} {n : Nat} {xs : List Value} (h : w.ownsRow B e 1 v n xs) : xs.length = n := by have := h.1; omega
theorem own_stored_below {B : Nat} {w wr : World} {g k : Nat} {u : Value} (hb : Below B w wr) (hg : B ≤ g) : Below B w (wr.setCell ⟨g, k, none⟩ u) := hb.setCell (p := ⟨g, k, none⟩) hg u
theorem fkeep {w w' : World} {p : Addr} (hb : Below w.heap.size w w') (hlt : p.block < w.heap.size) (h : w.frozen? p = false) : w'.frozen? p = false := by rw [hb.frozen hlt]; exact h
theorem bcell {W w1 : World} (hb : Below W.heap.size W w1) : (∀ b o, b < W.heap.size → w1.cell? ⟨b, o, none⟩ = W.cell? ⟨b, o, none⟩) ∧ (∀ b o, b < W.heap.size → w1.frozen? ⟨b, o, none⟩ = W.frozen? ⟨b, o, none⟩) :=
  ⟨fun b o h => hb.cell (p := ⟨b, o, none⟩) h, fun b o h => hb.frozen (p := ⟨b, o, none⟩) h⟩
theorem set_other {w : World} {b i o : Nat} {u : Value} (h : i ≠ o) : (w.setCell ⟨b, i, none⟩ u).cell? ⟨b, o, none⟩ = w.cell? ⟨b, o, none⟩ :=
  World.cell?_setCell_other _ _ _ _ (fun e => h (congrArg Addr.off e))
theorem set_same {w : World} {b o : Nat} {u z : Value} (h : w.cell? ⟨b, o, none⟩ = some z) : (w.setCell ⟨b, o, none⟩ u).cell? ⟨b, o, none⟩ = some u :=
  World.cell?_setCell_same' _ _ _ (by rw [h]; rfl)
theorem own_shape {w : World} {B : Nat} {e : TypeId} {sz : Nat} {v : Value} {n : Nat} {xs : List Value} (h : w.ownsRow B e sz v n xs) : ∃ a c, v = .slice a n c := by
  obtain ⟨_, h2⟩ := h
  rcases h2 with ⟨hv, hn⟩ | ⟨g, cap, cur, hv, _⟩
  · subst hn; exact ⟨_, _, hv⟩
  · exact ⟨_, _, hv⟩
/-- only blocks from lo to hi, and new ones, differ -/
structure Out (lo hi : Nat) (w w' : World) : Prop where
  below : Below lo w w'
  above : ∀ b, hi ≤ b → b < w.heap.size → w'.heap[b]? = w.heap[b]?
theorem Out.refl (lo hi : Nat) (w : World) : Out lo hi w w := ⟨Below.refl _ _, fun _ _ _ => rfl⟩
theorem Out.trans {lo hi : Nat} {a b c : World} (h : Out lo hi a b) (k : Out lo hi b c) : Out lo hi a c :=
  ⟨h.below.trans k.below, fun i hi' hl => (k.above i hi' (Nat.lt_of_lt_of_le hl h.below.size)).trans (h.above i hi' hl)⟩
theorem Out.of_below {lo hi : Nat} {w w' : World} (h : Below w.heap.size w w') (hl : lo ≤ w.heap.size) : Out lo hi w w' := ⟨h.mono hl, fun b _ hb => h.block b hb⟩
theorem Out.setCell {lo hi : Nat} {w w' : World} (h : Out lo hi w w') {p : Addr} (h1 : lo ≤ p.block) (h2 : p.block < hi) (u : Value) : Out lo hi w (w'.setCell p u) :=
  ⟨h.below.setCell h1 u, fun b hb hl => by rw [Below.heap_setCell _ _ _ _ (by omega)]; exact h.above b hb hl⟩
theorem Out.cell {lo hi : Nat} {w w' : World} (h : Out lo hi w w') {p : Addr} (hp : p.block < lo ∨ hi ≤ p.block) {x : Value} (hc : w.cell? p = some x) : w'.cell? p = some x := by
  have hlt := World.block_lt_of_cell? w _ hc
  rcases hp with hp | hp
  · rw [h.below.cell hp]; exact hc
  · rw [World.cell?_of_block (w := w) (h.above p.block hp hlt)]; exact hc
theorem Out.block {lo hi : Nat} {w w' : World} (h : Out lo hi w w') {b : Nat} (hb : b < lo ∨ hi ≤ b) (hl : b < w.heap.size) : w'.heap[b]? = w.heap[b]? := by
  rcases hb with hb | hb
  · exact h.below.block b hb
  · exact h.above b hb hl
theorem own_out {lo hi B : Nat} {w w' : World} {e : TypeId} {sz : Nat} {v : Value} {n : Nat} {xs : List Value} (h : w.ownsRow B e sz v n xs) (ho : Out lo hi w w') (hb : ∀ g, v.ownBlock = some g → g < lo ∨ hi ≤ g) : w'.ownsRow B e sz v n xs :=
  own_block h (fun g hg => ho.block (hb g hg) (h.lt g hg).2)
/-- a row of which every cell lies apart from the marked blocks -/
theorem RowAt.out {lo hi : Nat} {w w' : World} {v : Value} {xs : List Value} (h : RowAt w v xs) (ho : Out lo hi w w') (hb : ∀ g, v.ownBlock = some g → g < lo ∨ hi ≤ g) : RowAt w' v xs := by
  obtain ⟨a, c, hv, h1, h2, h3⟩ := h
  refine ⟨a, c, hv, h1, h2, fun k u hu => ?_⟩
  obtain ⟨b, off, ha, hlt, hc⟩ := h3 k u hu
  exact ⟨b, off, ha, Nat.lt_of_lt_of_le hlt ho.below.size, ho.cell (p := ⟨b, off + k, none⟩) (hb b (by rw [hv, ha]; rfl)) hc⟩
theorem Out.of_grown {lo hi : Nat} {w w' : World} {row : Option Nat} (h : w.grownBy w' row) (hl : lo ≤ w.heap.size) (hr : ∀ g, row = some g → lo ≤ g ∧ g < hi) : Out lo hi w w' :=
  ⟨⟨h.os, h.tape, h.output, h.size, fun b hb => h.block b (by omega) (fun e => by have := (hr b e.symm).1; omega)⟩, fun b hb hlt => h.block b hlt (fun e => by have := (hr b e.symm).2; omega)⟩
def countUp (k : Int) : Nat → List Int
  | 0 => []
  | n + 1 => countUp k n ++ [k + n]
theorem countUp_len (k : Int) : ∀ n, (countUp k n).length = n
  | 0 => rfl
  | n + 1 => by simp [countUp, countUp_len k n]
theorem countUp_get (k : Int) : ∀ n j (h : j < (countUp k n).length), (countUp k n)[j] = k + j
  | 0, j, h => by simp [countUp] at h
  | n + 1, j, h => by
    simp only [countUp]
    rw [List.getElem_append]
    have hl := countUp_len k n
    split
    · exact countUp_get k n j (by assumption)
    · have : j = n := by simp [countUp, hl] at h; omega
      subst this
      simp


theorem one_new (w : World) (u : Value) {t : TypeId} : ∀ j x, [u][j]? = some x → (w.alloc (.cells #[u] t)).cell? ((⟨w.heap.size, 0, none⟩ : Addr).add j) = some x := by
  intro j x hx
  cases j with
  | zero => simp at hx; subst hx; simp [Addr.add]
  | succ j => simp at hx
theorem one_newN (w : World) (u : Value) (m : Nat) (hm : m = w.heap.size) {t : TypeId} : ∀ j x, [u][j]? = some x → (w.alloc (.cells #[u] t)).cell? ((⟨m, 0, none⟩ : Addr).add j) = some x := by
  subst hm; exact one_new w u

/-- a row of numbers of the call's own, in a block from l to u -/
def IntsIn (l u : Nat) (w : World) (v : Value) (xs : List Int) : Prop := w.ownsRow l 3 1 v xs.length (ints xs) ∧ ∀ g, v.ownBlock = some g → g < u
theorem IntsIn.at {l u : Nat} {w : World} {v : Value} {xs : List Int} (h : IntsIn l u w v xs) : RowAt w v (ints xs) := rowAt_own h.1
theorem IntsIn.lo {l u : Nat} {w : World} {v : Value} {xs : List Int} (h : IntsIn l u w v xs) (g : Nat) (hg : v.ownBlock = some g) : l ≤ g := (h.1.lt g hg).1
theorem IntsIn.later {l u : Nat} {w w' : World} {v : Value} {xs : List Int} (h : IntsIn l u w v xs) (hb : Below w.heap.size w w') : IntsIn l u w' v xs := ⟨own_later h.1 hb, h.2⟩
theorem IntsIn.out {l u lo hi : Nat} {w w' : World} {v : Value} {xs : List Int} (h : IntsIn l u w v xs) (ho : Out lo hi w w') (hs : u ≤ lo ∨ hi ≤ l) : IntsIn l u w' v xs :=
  ⟨own_out h.1 ho (fun g hg => by have := h.2 g hg; have := h.lo g hg; omega), h.2⟩
theorem IntsIn.mk {l : Nat} {w : World} {v : Value} {xs : List Int} (h : w.ownsRow l 3 1 v xs.length (ints xs)) : IntsIn l w.heap.size w v xs := ⟨h, fun g hg => (h.lt g hg).2⟩
theorem IntsIn.base {l l' u u' : Nat} {w : World} {v : Value} {xs : List Int} (h : IntsIn l u w v xs) (hl : l' ≤ l) (hu : u ≤ u') : IntsIn l' u' w v xs := ⟨own_base h.1 hl, fun g hg => Nat.lt_of_lt_of_le (h.2 g hg) hu⟩
theorem IntsIn.nil (l u : Nat) (w : World) : IntsIn l u w (.slice none 0 0) [] := ⟨World.ownsRow_nil _ _ _ _, fun g hg => by simp [Value.ownBlock] at hg⟩
theorem IntS_open {w : World} {v : Value} {xs : List Int} (h : RowAt w v (ints xs)) : ∃ a c, v = .slice a xs.length c := by
  obtain ⟨a, c, hv, _⟩ := h
  rw [ints_len] at hv
  exact ⟨a, c, hv⟩

/-- the cells of a block from i on -/
def CellsF (w : World) (b : Nat) : Nat → List Value → Prop
  | _, [] => True
  | i, v :: vs => w.cell? ⟨b, i, none⟩ = some v ∧ CellsF w b (i + 1) vs
theorem CellsF.keep {w w' : World} {b : Nat} (hb : Below w.heap.size w w') : ∀ {i : Nat} {vs : List Value}, CellsF w b i vs → CellsF w' b i vs
  | _, [], _ => trivial
  | _, _ :: _, ⟨h, t⟩ => ⟨bkeep hb h, CellsF.keep hb t⟩
theorem CellsF.out {lo hi : Nat} {w w' : World} {b : Nat} (ho : Out lo hi w w') (hs : b < lo ∨ hi ≤ b) : ∀ {i : Nat} {vs : List Value}, CellsF w b i vs → CellsF w' b i vs
  | _, [], _ => trivial
  | i, _ :: _, ⟨h, t⟩ => ⟨ho.cell (p := ⟨b, i, none⟩) hs h, CellsF.out ho hs t⟩

section
variable {H : Type} {enc : TypeId × Value → H} {P : Program} {w : World} {base : Nat} {spare : Nat → Bool} {held : Bool}
theorem strings_trod {t e : TypeId} {n : Nat} {v : Value} {x : DataW H × List MemPlace} (ht : P.underlying t = some (.slice e)) (he : P.underlying e = some .string) (hc : P.cellsOf e = 1)
    (h : DataW.trod enc P w base spare held n t [v] = some x) : ∃ xs : List ByteArray, RowAt w v (strs xs) ∧ ∀ s ∈ xs, s.size ≤ maxLen := by
  rcases open_strings ht he hc h with ⟨hcs, _⟩ | ⟨a, len, cap, ss, hcs, _, hl, hm, hz, _, hcell, hws⟩
  · simp at hcs; subst hcs
    exact ⟨[], ⟨none, 0, rfl, Nat.le_refl _, by decide, fun k u hu => by simp [strs] at hu⟩, fun x hx => by simp at hx⟩
  · simp at hcs; subst hcs
    have hss : len ≤ ss.length := by rw [hz]; split <;> omega
    refine ⟨ss.take len, ⟨some a, cap, by simp [strs, Nat.min_eq_left hss], by simp [strs]; omega, hm, fun k u hu => ?_⟩, fun x hx => hws x (List.mem_of_mem_take hx)⟩
    rw [strs, List.getElem?_map, List.getElem?_take] at hu
    split at hu
    · rename_i hk
      have hk' : k < ss.length := by omega
      rw [List.getElem?_eq_getElem hk'] at hu
      have hcl := hcell k hk'
      obtain ⟨b, off, sp⟩ := a
      have hsp : sp = none := by
        have := World.cell?_spot (hcell 0 (by omega))
        simpa [Addr.add] using this
      subst hsp
      rw [addr_add] at hcl
      have hu' : Value.string (ss[k]) = u := by simpa using hu
      refine ⟨b, off, rfl, World.block_lt_of_cell? w _ hcl, ?_⟩
      rw [hcl, ← hu']
      simp [List.getD, List.getElem?_eq_getElem hk']
    · simp at hu
theorem ints_trod {t e : TypeId} {n : Nat} {v : Value} {x : DataW H × List MemPlace} (ht : P.underlying t = some (.slice e)) (he : P.underlying e = some (.int .i64)) (hc : P.cellsOf e = 1)
    (h : DataW.trod enc P w base spare held n t [v] = some x) : ∃ zs : List Int, RowAt w v (ints zs) ∧ ∀ z ∈ zs, (Lit.int .i64 z).wf = true := by
  rcases open_ints ht he hc h with ⟨hcs, _⟩ | ⟨a, len, cap, ss, hcs, _, hl, hm, hz, _, hcell, hws⟩
  · simp at hcs; subst hcs
    exact ⟨[], ⟨none, 0, rfl, Nat.le_refl _, by decide, fun k u hu => by simp [ints] at hu⟩, fun x hx => by simp at hx⟩
  · simp at hcs; subst hcs
    have hss : len ≤ ss.length := by rw [hz]; split <;> omega
    refine ⟨ss.take len, ⟨some a, cap, by simp [ints, Nat.min_eq_left hss], by simp [ints]; omega, hm, fun k u hu => ?_⟩, fun x hx => hws x (List.mem_of_mem_take hx)⟩
    rw [ints, List.getElem?_map, List.getElem?_take] at hu
    split at hu
    · rename_i hk
      have hk' : k < ss.length := by omega
      rw [List.getElem?_eq_getElem hk'] at hu
      have hcl := hcell k hk'
      obtain ⟨b, off, sp⟩ := a
      have hsp : sp = none := by
        have := World.cell?_spot (hcell 0 (by omega))
        simpa [Addr.add] using this
      subst hsp
      rw [addr_add] at hcl
      have hu' : Value.int .i64 (ss[k]) = u := by simpa using hu
      refine ⟨b, off, rfl, World.block_lt_of_cell? w _ hcl, ?_⟩
      rw [hcl, ← hu']
      simp [List.getD, List.getElem?_eq_getElem hk']
    · simp at hu
end
end Go.Proofs.Ytfgkfdkdjegaiaa

namespace Go.Proofs.Ytfgkfdkdjegaiaa
open Go.RowKit Go.ChangeShapes Go.WideShapes Go.ChangeAt Go.Deep Go.Joins

/-- a line's three cells -/
def LineAt (w : World) (b o : Nat) (l : LineD) : Prop :=
  ∃ sv rv, w.cell? ⟨b, o, none⟩ = some (.string l.name) ∧ w.cell? ⟨b, o + 1, none⟩ = some sv ∧ w.cell? ⟨b, o + 2, none⟩ = some rv ∧ RowAt w sv (ints l.stops) ∧ RowAt w rv (ints l.runs)
/-- a line by value -/
def LineV (w : World) (v : Value) (l : LineD) : Prop := ∃ sv rv, v = .agg #[.string l.name, sv, rv] ∧ RowAt w sv (ints l.stops) ∧ RowAt w rv (ints l.runs)
def LinesAt (w : World) (v : Value) (ls : List LineD) : Prop :=
  ∃ a c, v = .slice a ls.length c ∧ ls.length ≤ c ∧ c ≤ maxLen ∧ ∀ k l, ls[k]? = some l → ∃ b off, a = some ⟨b, off, none⟩ ∧ b < w.heap.size ∧ LineAt w b (off + k * 3) l
def NetAt (w : World) (v : Value) (n : NetD) : Prop := ∃ s l, v = .agg #[s, l] ∧ RowAt w s (strs n.stops) ∧ LinesAt w l n.lines

theorem LineAt.below {w w' : World} {b o : Nat} {l : LineD} (h : LineAt w b o l) {B : Nat} (hB : B = w.heap.size) (hb : Below B w w') : LineAt w' b o l := by
  obtain ⟨sv, rv, h1, h2, h3, h4, h5⟩ := h
  have hlt := World.block_lt_of_cell? w _ h1
  subst hB
  exact ⟨sv, rv, by rw [hb.cell (p := ⟨b, o, none⟩) hlt]; exact h1, by rw [hb.cell (p := ⟨b, o + 1, none⟩) hlt]; exact h2, by rw [hb.cell (p := ⟨b, o + 2, none⟩) hlt]; exact h3, h4.below rfl hb, h5.below rfl hb⟩
theorem LineV.below {w w' : World} {v : Value} {l : LineD} (h : LineV w v l) {B : Nat} (hB : B = w.heap.size) (hb : Below B w w') : LineV w' v l := by
  obtain ⟨sv, rv, h1, h4, h5⟩ := h
  exact ⟨sv, rv, h1, h4.below hB hb, h5.below hB hb⟩
theorem LinesAt.below {w w' : World} {v : Value} {ls : List LineD} (h : LinesAt w v ls) {B : Nat} (hB : B = w.heap.size) (hb : Below B w w') : LinesAt w' v ls := by
  obtain ⟨a, c, hv, h1, h2, h3⟩ := h
  refine ⟨a, c, hv, h1, h2, fun k l hl => ?_⟩
  obtain ⟨b, off, ha, hlt, hc⟩ := h3 k l hl
  exact ⟨b, off, ha, Nat.lt_of_lt_of_le hlt (by subst hB; exact hb.size), hc.below hB hb⟩
theorem NetAt.below {w w' : World} {v : Value} {n : NetD} (h : NetAt w v n) {B : Nat} (hB : B = w.heap.size) (hb : Below B w w') : NetAt w' v n := by
  obtain ⟨s, l, hv, h1, h2⟩ := h
  exact ⟨s, l, hv, h1.below hB hb, h2.below hB hb⟩

/-- what memory gives of every letter and number -/
def LineFits (l : LineD) : Prop := l.name.size ≤ maxLen ∧ (∀ z ∈ l.stops, (Lit.int .i64 z).wf = true) ∧ ∀ z ∈ l.runs, (Lit.int .i64 z).wf = true
def NetFits (n : NetD) : Prop := (∀ s ∈ n.stops, s.size ≤ maxLen) ∧ ∀ l ∈ n.lines, LineFits l

section
variable {H : Type} {enc : TypeId × Value → H} {P : Program} {w : World} {base : Nat} {spare : Nat → Bool} {held : Bool}

theorem lines_trod {t e si : TypeId} {f0 f1 f2 : Field} {n : Nat} {v : Value} {x : DataW H × List MemPlace} (ht : P.underlying t = some (.slice e)) (he : P.underlying e = some (.struct #[f0, f1, f2]))
    (hone : oneCellFields P #[f0, f1, f2] = true) (hc : P.cellsOf e = 3) (h0 : P.underlying f0.type = some .string) (h1 : P.underlying f1.type = some (.slice si)) (h2 : P.underlying f2.type = some (.slice si)) (hi : P.underlying si = some (.int .i64)) (hic : P.cellsOf si = 1)
    (h : DataW.trod enc P w base spare held n t [v] = some x) : ∃ ls : List LineD, LinesAt w v ls ∧ ∀ l ∈ ls, LineFits l := by
  rcases open_slice ht h with ⟨hcs, _⟩ | ⟨a, len, cap, m, n', D, Pl, hcs, _, hl, hm, hmm, _, hel⟩
  · simp at hcs; subst hcs
    exact ⟨[], ⟨none, 0, rfl, Nat.le_refl _, by decide, fun k u hu => by simp at hu⟩, fun x hx => by simp at hx⟩
  · simp at hcs; subst hcs
    have hml : len ≤ m := by rw [hmm]; split <;> omega
    have hsp : ∀ k, k < len → a.spot = none := fun k hk => by
      obtain ⟨cs', hcc, htt⟩ := hel 0 (by omega)
      obtain ⟨_, hcl, hat⟩ := World.cells?_some hcc
      have := hat 0 (by omega)
      have hq : cs'[0]? = some (cs'[0]'(by omega)) := List.getElem?_eq_getElem _
      rw [hq] at this
      have := World.cell?_spot this
      simpa [Addr.add] using this
    have each : ∀ k, k < len → ∃ l : LineD, LineAt w a.block (a.off + k * 3) l ∧ LineFits l := fun k hk => by
      obtain ⟨cs', hcc, htt⟩ := hel k (by omega)
      obtain ⟨_, hcl, hat⟩ := World.cells?_some hcc
      obtain ⟨ys, n2, _, _, _, hylen, hg⟩ := DataW.trod_struct he htt
      have hs := hsp k hk
      obtain ⟨b, off, sp⟩ := a
      simp only at hs
      subst hs
      rw [hc] at hcl hat
      match cs', hcl with
      | [c0, c1, c2], _ =>
        obtain ⟨o0, k0⟩ := hone_of hone 0 f0 rfl
        obtain ⟨o1, k1⟩ := hone_of hone 1 f1 rfl
        obtain ⟨o2, k2⟩ := hone_of hone 2 f2 rfl
        have g0 := hg 0 f0 rfl
        have g1 := hg 1 f1 rfl
        have g2 := hg 2 f2 rfl
        rw [o0, k0] at g0
        rw [o1, k1] at g1
        rw [o2, k2] at g2
        simp only [List.drop_zero, List.drop_succ_cons, List.take_succ_cons, List.take_zero] at g0 g1 g2
        have hy : ys.length = 3 := hylen
        rw [List.getElem?_eq_getElem (by omega)] at g0 g1 g2
        obtain ⟨s, hs0, _, hsz⟩ := DataW.trod_string h0 g0
        obtain ⟨zs, hz, hzw⟩ := ints_trod h1 hi hic g1
        obtain ⟨rs, hr, hrw⟩ := ints_trod h2 hi hic g2
        simp at hs0
        subst hs0
        refine ⟨⟨s, zs, rs⟩, ⟨c1, c2, ?_, ?_, ?_, hz, hr⟩, hsz, hzw, hrw⟩
        · have := hat 0 (by omega); rw [addr_add, addr_add] at this; simpa [hc] using this
        · have := hat 1 (by omega); rw [addr_add, addr_add] at this; simpa [hc] using this
        · have := hat 2 (by omega); rw [addr_add, addr_add] at this; simpa [hc] using this
    have fam : ∃ F : Nat → LineD, ∀ k, k < len → LineAt w a.block (a.off + k * 3) (F k) ∧ LineFits (F k) :=
      ⟨fun k => if hk : k < len then Classical.choose (each k hk) else ⟨⟨#[]⟩, [], []⟩, fun k hk => by simp only [dif_pos hk]; exact Classical.choose_spec (each k hk)⟩
    obtain ⟨F, hF⟩ := fam
    refine ⟨(List.range len).map F, ⟨some a, cap, by simp, by simp; omega, hm, fun k l hl => ?_⟩, fun l hl => ?_⟩
    · rw [List.getElem?_map] at hl
      have hk : k < len := by
        by_cases hk : k < len
        · exact hk
        · rw [List.getElem?_eq_none (by simp; omega)] at hl; simp at hl
      rw [List.getElem?_range hk] at hl
      have hl' : F k = l := by simpa using hl
      subst hl'
      have hs := hsp k hk
      have h3 := hF k hk
      obtain ⟨b, off, sp⟩ := a
      simp only at hs
      subst hs
      obtain ⟨_, _, q, _⟩ := h3.1
      exact ⟨b, off, rfl, World.block_lt_of_cell? w _ q, h3.1⟩
    · obtain ⟨k, hk, rfl⟩ := List.mem_map.1 hl
      exact (hF k (List.mem_range.1 hk)).2

theorem net_trod {r : Reach} {b0 : Nat} {t e le si : TypeId} {F0 F1 f0 f1 f2 : Field} {v : Value} {d : DataW H} {p : List MemPlace} (hs : P.underlying t = some (.struct #[F0, F1])) (hone0 : oneCellFields P #[F0, F1] = true) (hC : P.cellsOf t = 2)
    (hF0 : P.underlying F0.type = some (.slice e)) (hes : P.underlying e = some .string) (hec : P.cellsOf e = 1) (hF1 : P.underlying F1.type = some (.slice le)) (he : P.underlying le = some (.struct #[f0, f1, f2]))
    (hone : oneCellFields P #[f0, f1, f2] = true) (hc : P.cellsOf le = 3) (h0 : P.underlying f0.type = some .string) (h1 : P.underlying f1.type = some (.slice si)) (h2 : P.underlying f2.type = some (.slice si)) (hi : P.underlying si = some (.int .i64)) (hic : P.cellsOf si = 1)
    (hv : Value.okWide P w r b0 t v) (h : DataW.Trod enc P w base spare held t v d p) : ∃ n : NetD, NetAt w v n ∧ NetFits n := by
  obtain ⟨v0, v1, y0, y1, m, rfl, _, _, t0, t1⟩ := open_agg2 hs hone0 hC hv h
  obtain ⟨ss, hss, hsf⟩ := strings_trod hF0 hes hec t0
  obtain ⟨ls, hls, hlf⟩ := lines_trod hF1 he hone hc h0 h1 h2 hi hic t1
  exact ⟨⟨ss, ls⟩, ⟨v0, v1, rfl, hss, hls⟩, hsf, hlf⟩
end
end Go.Proofs.Ytfgkfdkdjegaiaa

namespace Go.Proofs.Ytfgkfdkdjegaiaa
open Go.RowKit
set_option linter.unusedVariables false

theorem lines_at {w : World} {a : Option Addr} {ls : List LineD} (h : ∀ k l, ls[k]? = some l → ∃ b off, a = some ⟨b, off, none⟩ ∧ b < w.heap.size ∧ LineAt w b (off + k * 3) l) (k : Nat) (hk : k < ls.length) :
    ∃ b off, a = some ⟨b, off, none⟩ ∧ b < w.heap.size ∧ LineAt w b (off + k * 3) (ls[k]'hk) := h k _ (by simp [List.getElem?_eq_getElem hk])

theorem lines_open {w : World} {v : Value} {ls : List LineD} (h : LinesAt w v ls) : ∃ a c, v = .slice a ls.length c ∧ ls.length ≤ c ∧ c ≤ 9223372036854775807 ∧
    Hid (∀ k (hk : k < ls.length), ∃ b off, a = some ⟨b, off, none⟩ ∧ b < w.heap.size ∧ LineAt w b (off + k * 3) (ls[k]'hk)) := by
  obtain ⟨a, c, rfl, h1, h2, h3⟩ := h
  exact ⟨a, c, rfl, h1, h2, lines_at h3⟩

theorem net_open {w : World} {v : Value} {n : NetD} (h : NetAt w v n) : ∃ a c a' c', v = .agg #[.slice a n.stops.length c, .slice a' n.lines.length c'] ∧ RowAt w (.slice a n.stops.length c) (strs n.stops) ∧ LinesAt w (.slice a' n.lines.length c') n.lines := by
  obtain ⟨sv, lv, rfl, hss, hll⟩ := h
  obtain ⟨a, c, rfl, _⟩ := strs_open hss
  obtain ⟨a', c', rfl, _⟩ := lines_open hll
  exact ⟨a, c, a', c', rfl, hss, hll⟩

theorem l2Find_any (v : Value) (xs : List ByteArray) (name : ByteArray) (w : World) (hr : RowAt w v (strs xs)) :
    Calls Try.prog 119 #[v, .string name] w fun e w' => e = .returned (.int .i64 (fstIdx name xs)) ∧ w = w' := by
  obtain ⟨a, c, rfl, hc, hm, hcell⟩ := hr
  rw [strs_len] at *
  unfold maxLen at hm
  have HC := Lib.hid hcell
  clear hcell
  go_enter Try.func119, Try.ntmps119
  go_wp2
  go_loop [5] (fun i => ∃ k : Nat, k ≤ xs.length ∧ i = .int .i64 k ∧ Hid (name ∉ xs.take k)) (fun i => xs.length - (RowKit.intOf i).toNat)
  case atStart => exact ⟨0, Nat.zero_le _, rfl, by show _ ∉ _; simp⟩
  case round =>
    obtain ⟨k, hk, rfl, HN⟩ := hrel
    by_cases hlt : k < xs.length
    · obtain ⟨b, off, rfl, _, hcx⟩ := strs_at HC.out k hlt
      by_cases he : xs[k] = name
      · have HF := Lib.hid (fstIdx_hit k hlt he HN.out)
        have hb : (xs[k].toList == name.toList) = true := by rw [bytes_eq]; simp [he]
        clear he
        generalize xs[k] = y at *
        go_wp2
        go_ret
        exact ⟨ret_int HF.out.symm, rfl⟩
      · have HN2 := Lib.hid (not_take_succ hlt HN.out he)
        have hb : (xs[k].toList == name.toList) = false := by rw [bytes_eq]; simp [he]
        clear he
        generalize xs[k] = y at *
        go_wp2
        go_round
        case rel => exact ⟨k + 1, by omega, by go_num, HN2⟩
        case measure => simp [RowKit.intOf]; omega
    · have HF := Lib.hid (fstIdx_none (not_take_all (by omega) HN.out))
      go_wp2
      go_ret
      exact ⟨ret_int HF.out.symm, rfl⟩

theorem l2Place_any (v : Value) (l : LineD) (stop : Int) (w : World) (hr : LineV w v l) :
    Calls Try.prog 81 #[v, .int .i64 stop] w fun e w' => e = .returned (.int .i64 (fstIdx stop l.stops)) ∧ Below w.heap.size w w' := by
  obtain ⟨sv, rv, rfl, hs, _⟩ := hr
  obtain ⟨a, c, rfl, hc, hm, hcell⟩ := hs
  rw [ints_len] at *
  unfold maxLen at hm
  have HC := Lib.hid hcell
  clear hcell
  generalize l.stops = xs at *
  generalize l.name = nm at *
  go_enter Try.func81, Try.ntmps81
  go_wp2
  go_loop [5] (fun i => ∃ k : Nat, k ≤ xs.length ∧ i = .int .i64 k ∧ Hid (stop ∉ xs.take k)) (fun i => xs.length - (RowKit.intOf i).toNat)
  case atStart => exact ⟨0, Nat.zero_le _, rfl, by show _ ∉ _; simp⟩
  case round =>
    obtain ⟨k, hk, rfl, HN⟩ := hrel
    by_cases hlt : k < xs.length
    · obtain ⟨b, off, rfl, hbl, hcx⟩ := ints_at HC.out k hlt
      by_cases he : xs[k] = stop
      · have HF := Lib.hid (fstIdx_hit k hlt he HN.out)
        have hb : (xs[k] == stop) = true := by simp [he]
        clear he
        generalize xs[k] = y at *
        go_wp2
        go_ret
        exact ⟨ret_int HF.out.symm, (Below.refl _ _).alloc (Nat.le_refl _) _⟩
      · have HN2 := Lib.hid (not_take_succ hlt HN.out he)
        have hb : (xs[k] == stop) = false := by simp [he]
        clear he
        generalize xs[k] = y at *
        go_wp2
        go_round
        case rel => exact ⟨k + 1, by omega, by go_num, HN2⟩
        case measure => simp [RowKit.intOf]; omega
    · have HF := Lib.hid (fstIdx_none (not_take_all (by omega) HN.out))
      go_wp2
      go_ret
      exact ⟨ret_int HF.out.symm, (Below.refl _ _).alloc (Nat.le_refl _) _⟩

theorem l2LineNamed_any (v : Value) (n : NetD) (name : ByteArray) (w : World) (hr : NetAt w v n) :
    Calls Try.prog 121 #[v, .string name] w fun e w' => e = .returned (.int .i64 (fstIdx name (n.lines.map (·.name)))) ∧ Below w.heap.size w w' := by
  obtain ⟨sv, lv, rfl, _, hs⟩ := hr
  obtain ⟨a, c, rfl, hc, hm, hcell⟩ := hs
  unfold maxLen at hm
  have HC := Lib.hid hcell
  clear hcell
  generalize n.lines = ls at *
  go_enter Try.func121, Try.ntmps121
  go_wp2
  go_loop [5] (fun i => ∃ k : Nat, k ≤ ls.length ∧ i = .int .i64 k ∧ Hid (name ∉ (ls.map (·.name)).take k)) (fun i => ls.length - (RowKit.intOf i).toNat)
  case atStart => exact ⟨0, Nat.zero_le _, rfl, by show _ ∉ _; simp⟩
  case round =>
    obtain ⟨k, hk, rfl, HN⟩ := hrel
    by_cases hlt : k < ls.length
    · obtain ⟨b, off, rfl, hbl, _, _, hcx, _⟩ := lines_at HC.out k hlt
      have hlt' : k < (ls.map (·.name)).length := by simpa using hlt
      have hget : (ls.map (·.name))[k]'hlt' = ls[k].name := by simp
      by_cases he : ls[k].name = name
      · have HF := Lib.hid (fstIdx_hit k hlt' (hget.trans he) HN.out)
        have hb : (ls[k].name.toList == name.toList) = true := by rw [bytes_eq]; simp [he]
        clear he hget
        generalize ls[k].name = y at *
        go_wp2
        go_ret
        exact ⟨ret_int HF.out.symm, (Below.refl _ _).alloc (Nat.le_refl _) _⟩
      · have HN2 := Lib.hid (not_take_succ hlt' HN.out (by rw [hget]; exact he))
        have hb : (ls[k].name.toList == name.toList) = false := by rw [bytes_eq]; simp [he]
        clear he hget
        generalize ls[k].name = y at *
        go_wp2
        go_round
        case rel => exact ⟨k + 1, by omega, by go_num, HN2⟩
        case measure => simp [RowKit.intOf]; omega
    · have HF := Lib.hid (fstIdx_none (not_take_all (by simp; omega) HN.out))
      go_wp2
      go_ret
      exact ⟨ret_int HF.out.symm, (Below.refl _ _).alloc (Nat.le_refl _) _⟩
end Go.Proofs.Ytfgkfdkdjegaiaa

namespace Go.Proofs.Ytfgkfdkdjegaiaa
open Go.RowKit
set_option linter.unusedVariables false

/-- a line whose rows are the call's own, beside the block b in which it lies -/
def LineOwn (B : Nat) (w : World) (b o : Nat) (l : LineD) : Prop :=
  ∃ sv rv, w.cell? ⟨b, o, none⟩ = some (.string l.name) ∧ w.cell? ⟨b, o + 1, none⟩ = some sv ∧ w.cell? ⟨b, o + 2, none⟩ = some rv ∧ w.ownsRow B 3 1 sv l.stops.length (ints l.stops) ∧ w.ownsRow B 3 1 rv l.runs.length (ints l.runs) ∧
    sv.ownBlock ≠ some b ∧ rv.ownBlock ≠ some b
/-- a line by value, its rows the call's own -/
def LineVOwn (B : Nat) (w : World) (v : Value) (l : LineD) : Prop := ∃ sv rv, v = .agg #[.string l.name, sv, rv] ∧ w.ownsRow B 3 1 sv l.stops.length (ints l.stops) ∧ w.ownsRow B 3 1 rv l.runs.length (ints l.runs)
/-- the rows of n lines that lie in the block g are all different -/
def RowsApart (w : World) (g n : Nat) : Prop := ∀ (j i j' i' : Nat) (v v' : Value), j < n → j' < n → (i = 1 ∨ i = 2) → (i' = 1 ∨ i' = 2) → (j ≠ j' ∨ i ≠ i') → w.cell? ⟨g, j * 3 + i, none⟩ = some v → w.cell? ⟨g, j' * 3 + i', none⟩ = some v' → v.ownBlock = none ∨ v.ownBlock ≠ v'.ownBlock
theorem RowsApart.of_cells {w w' : World} {g n : Nat} (h : RowsApart w g n) (hc : ∀ o, w'.cell? ⟨g, o, none⟩ = w.cell? ⟨g, o, none⟩) : RowsApart w' g n :=
  fun j i j' i' v v' h1 h2 h3 h4 h5 c c' => h j i j' i' v v' h1 h2 h3 h4 h5 ((hc _).symm.trans c) ((hc _).symm.trans c')
def LinesOwn (B : Nat) (w : World) (v : Value) (ls : List LineD) : Prop :=
  ∃ g c cur, v = .slice (some ⟨g, 0, none⟩) ls.length c ∧ B ≤ g ∧ w.heap[g]? = some (.cells cur 98 (0, 0)) ∧ ls.length ≤ c ∧ c ≤ maxLen ∧ cur.size = c * 3 ∧ (∀ k l, ls[k]? = some l → LineOwn B w g (k * 3) l) ∧ RowsApart w g ls.length
def NetOwn (B : Nat) (w : World) (v : Value) (n : NetD) : Prop := ∃ s l B1, v = .agg #[s, l] ∧ w.ownsRow B 9 1 s n.stops.length (strs n.stops) ∧ LinesOwn B1 w l n.lines ∧ B ≤ B1 ∧ ∀ b, s.ownBlock = some b → b < B1

theorem LineOwn.at {B : Nat} {w : World} {b o : Nat} {l : LineD} (h : LineOwn B w b o l) : LineAt w b o l := by
  obtain ⟨sv, rv, h0, h1, h2, h3, h4, _⟩ := h
  exact ⟨sv, rv, h0, h1, h2, rowAt_own h3, rowAt_own h4⟩
theorem LinesOwn.at {B : Nat} {w : World} {v : Value} {ls : List LineD} (h : LinesOwn B w v ls) : LinesAt w v ls := by
  obtain ⟨g, c, cur, hv, hg, hh, h1, h2, h3, h4, h5⟩ := h
  exact ⟨some ⟨g, 0, none⟩, c, hv, h1, h2, fun k l hl => ⟨g, 0, rfl, (Array.getElem?_eq_some_iff.1 hh).1, by rw [Nat.zero_add]; exact (h4 k l hl).at⟩⟩
theorem NetOwn.at {B : Nat} {w : World} {v : Value} {n : NetD} (h : NetOwn B w v n) : NetAt w v n := by
  obtain ⟨s, l, B1, hv, h1, h2, _⟩ := h
  exact ⟨s, l, hv, rowAt_own h1, h2.at⟩
theorem LineVOwn.v {B : Nat} {w : World} {v : Value} {l : LineD} (h : LineVOwn B w v l) : LineV w v l := by
  obtain ⟨sv, rv, hv, h1, h2⟩ := h
  exact ⟨sv, rv, hv, rowAt_own h1, rowAt_own h2⟩
theorem LineOwn.later {B : Nat} {w w' : World} {b o : Nat} {l : LineD} (h : LineOwn B w b o l) (hb : Below w.heap.size w w') : LineOwn B w' b o l := by
  obtain ⟨sv, rv, h0, h1, h2, h3, h4, h5⟩ := h
  exact ⟨sv, rv, bkeep hb h0, bkeep hb h1, bkeep hb h2, own_later h3 hb, own_later h4 hb, h5⟩
theorem LinesOwn.later {B : Nat} {w w' : World} {v : Value} {ls : List LineD} (h : LinesOwn B w v ls) (hb : Below w.heap.size w w') : LinesOwn B w' v ls := by
  obtain ⟨g, c, cur, hv, hg, hh, h1, h2, h3, h4, h5⟩ := h
  exact ⟨g, c, cur, hv, hg, (hb.block g (Array.getElem?_eq_some_iff.1 hh).1).trans hh, h1, h2, h3, fun k l hl => (h4 k l hl).later hb, h5.of_cells fun o => hb.cell (p := ⟨g, o, none⟩) (Array.getElem?_eq_some_iff.1 hh).1⟩
theorem NetOwn.later {B : Nat} {w w' : World} {v : Value} {n : NetD} (h : NetOwn B w v n) (hb : Below w.heap.size w w') : NetOwn B w' v n := by
  obtain ⟨s, l, B1, hv, h1, h2, h3⟩ := h
  exact ⟨s, l, B1, hv, own_later h1 hb, h2.later hb, h3⟩
theorem LineAt.toV {w : World} {b o : Nat} {l : LineD} (h : LineAt w b o l) : ∃ sv rv, w.cell? ⟨b, o, none⟩ = some (.string l.name) ∧ w.cell? ⟨b, o + 1, none⟩ = some sv ∧ w.cell? ⟨b, o + 2, none⟩ = some rv ∧ LineV w (.agg #[.string l.name, sv, rv]) l := by
  obtain ⟨sv, rv, h0, h1, h2, h3, h4⟩ := h
  exact ⟨sv, rv, h0, h1, h2, sv, rv, rfl, h3, h4⟩
theorem LineOwn.far {B : Nat} {w : World} {b o : Nat} {l : LineD} (h : LineOwn B w b o l) (hb : B ≤ b) {p : Addr} (u : Value) (hp : p.block < B) : LineOwn B (w.setCell p u) b o l := by
  obtain ⟨sv, rv, c0, c1, c2, r1, r2, n⟩ := h
  have hc : ∀ o, (w.setCell p u).cell? ⟨b, o, none⟩ = w.cell? ⟨b, o, none⟩ := fun o => World.cell?_setCell_other _ _ _ _ (fun e => by rw [e] at hp; simp at hp; omega)
  exact ⟨sv, rv, (hc _).trans c0, (hc _).trans c1, (hc _).trans c2, ownsRow_setCell_below r1 hp u, ownsRow_setCell_below r2 hp u, n⟩
theorem LinesOwn.far {B : Nat} {w : World} {v : Value} {ls : List LineD} (h : LinesOwn B w v ls) {p : Addr} (u : Value) (hp : p.block < B) : LinesOwn B (w.setCell p u) v ls := by
  obtain ⟨g, c, cur, hv, hg, hh, h1, h2, h3, h4, h5⟩ := h
  exact ⟨g, c, cur, hv, hg, by rw [Below.heap_setCell _ _ _ _ (by omega)]; exact hh, h1, h2, h3, fun k l hl => (h4 k l hl).far hg u hp, h5.of_cells fun o => World.cell?_setCell_other _ _ _ _ (fun e => by rw [e] at hp; simp at hp; omega)⟩
theorem LineOwn.base {B B' : Nat} {w : World} {b o : Nat} {l : LineD} (h : LineOwn B w b o l) (hB : B' ≤ B) : LineOwn B' w b o l := by
  obtain ⟨sv, rv, c0, c1, c2, r1, r2, n⟩ := h
  exact ⟨sv, rv, c0, c1, c2, own_base r1 hB, own_base r2 hB, n⟩
theorem LinesOwn.base {B B' : Nat} {w : World} {v : Value} {ls : List LineD} (h : LinesOwn B w v ls) (hB : B' ≤ B) : LinesOwn B' w v ls := by
  obtain ⟨g, c, cur, hv, hg, hh, h1, h2, h3, h4, h5⟩ := h
  exact ⟨g, c, cur, hv, by omega, hh, h1, h2, h3, fun k l hl => (h4 k l hl).base hB, h5⟩
end Go.Proofs.Ytfgkfdkdjegaiaa

namespace Go.Proofs.Ytfgkfdkdjegaiaa
open Go.RowKit
set_option linter.unusedVariables false

theorem infoString : (Try.prog.info? 9).map (fun i => (i.zero, i.size, i.bytes)) = some (some (.string ⟨#[]⟩), 1, 16) := by kernel_rfl

/-- the letters of all strings together -/
def sumSz (xs : List ByteArray) : Nat := (xs.map (·.size)).sum
theorem sumSz_take (xs : List ByteArray) (k : Nat) (h : k < xs.length) : sumSz (xs.take (k + 1)) = sumSz (xs.take k) + (xs[k]'h).size := by
  rw [List.take_succ_eq_append_getElem h]; simp only [sumSz, List.map_append, List.sum_append, List.map_cons, List.map_nil, List.sum_cons, List.sum_nil]; omega
theorem sumSz_le (xs : List ByteArray) (k : Nat) : sumSz (xs.take k) ≤ sumSz xs := by
  have : sumSz xs = sumSz (xs.take k) + sumSz (xs.drop k) := by
    conv => lhs; rw [← List.take_append_drop k xs]
    simp only [sumSz, List.map_append, List.sum_append]
  omega

theorem str_at {w : World} {a : Option Addr} {xs : List ByteArray} (h : ∀ k u, (xs.map Value.string)[k]? = some u → ∃ b off, a = some ⟨b, off, none⟩ ∧ b < w.heap.size ∧ w.cell? ⟨b, off + k, none⟩ = some u) (k : Nat) (hk : k < xs.length) :
    ∃ b off, a = some ⟨b, off, none⟩ ∧ b < w.heap.size ∧ w.cell? ⟨b, off + k, none⟩ = some (.string (xs[k]'hk)) := h k _ (by simp [List.getElem?_eq_getElem hk])

set_option maxHeartbeats 1000000 in
theorem szStringS_any (v : Value) (xs : List ByteArray) (left : Int) (w : World) (hr : RowAt w v (xs.map .string)) (hx : ∀ x ∈ xs, x.size ≤ maxLen) (h0 : 0 ≤ left) (h1 : left ≤ 1048576) :
    Calls Try.prog 84 #[v, .int .i64 left] w fun e w' => (∃ r : Int, e = .returned (.int .i64 r) ∧ (r = -1 ∨ (0 ≤ r ∧ (xs.length : Int) + sumSz xs + r = left))) ∧ w = w' := by
  obtain ⟨a, c, rfl, hc, hm, hcell⟩ := hr
  rw [List.length_map] at hc ⊢
  unfold maxLen at hm hx
  have HC := Lib.hid hcell
  clear hcell
  by_cases hneg : left - (xs.length : Int) < 0
  · go_enter Try.func84, Try.ntmps84
    go_wp2
    go_ret
    exact ⟨⟨-1, rfl, .inl rfl⟩, rfl⟩
  · go_enter Try.func84, Try.ntmps84
    go_wp2
    go_loop [1, 5] (fun l i => ∃ k : Nat, k ≤ xs.length ∧ i = .int .i64 k ∧ ∃ r : Int, l = .int .i64 r ∧ 0 ≤ r ∧ Hid ((xs.length : Int) + sumSz (xs.take k) + r = left) ∧ r ≤ 1048576) (fun _ i => xs.length - (RowKit.intOf i).toNat)
    case atStart => exact ⟨0, Nat.zero_le _, rfl, _, rfl, by omega, by show _ = _; simp [sumSz]; omega, by omega⟩
    case round =>
      obtain ⟨k, hk, rfl, r, rfl, hr0, HR, hr1⟩ := hrel
      by_cases hlt : k < xs.length
      · obtain ⟨b, off, rfl, _, hcx⟩ := str_at HC.out k hlt
        have hsz := hx _ (List.getElem_mem hlt)
        have HS := Lib.hid (sumSz_take xs k hlt)
        generalize xs[k] = y at *
        by_cases hn : r - (y.size : Int) < 0
        · go_wp2
          go_ret
          exact ⟨⟨-1, rfl, .inl rfl⟩, rfl⟩
        · go_wp2
          go_round
          case rel => exact ⟨k + 1, by omega, by go_num, _, rfl, by omega, by have := HR.out; have := HS.out; show _ = _; omega, by omega⟩
          case measure => simp [RowKit.intOf]; omega
      · go_wp2
        go_ret
        exact ⟨⟨r, rfl, .inr ⟨hr0, by have := HR.out; rw [List.take_of_length_le (by omega)] at this; exact this⟩⟩, rfl⟩

set_option maxHeartbeats 1000000 in
theorem toStringS_any (v : Value) (xs : List ByteArray) (w : World) (hr : RowAt w v (xs.map .string)) (hn : xs.length ≤ 1048576) :
    Calls Try.prog 86 #[v] w fun e w' => ∃ v', e = .returned v' ∧ w'.ownsRow w.heap.size 9 1 v' xs.length (xs.map .string) ∧ Below w.heap.size w w' := by
  obtain ⟨a, c, rfl, hc, hm, hcell⟩ := hr
  rw [List.length_map] at hc ⊢
  have HC := Lib.hid hcell
  clear hcell
  obtain ⟨i0, hi, hz0, hz1, hz2⟩ := info_parts infoString
  go_enter Try.func86, Try.ntmps86
  go_wp2_with (at_make; refine wpList_make_full _ rfl _ _ 24 rfl w.heap.size 9 i0 (.string ⟨#[]⟩) 1 Try.underlying24 hi hz0 hz1 .i64 .i64 (xs.length : Int) (xs.length : Int) xs.length rfl rfl rfl rfl ?c1 ?c2 ?c3 ?_)
  case c1 => rw [hz2]; omega
  case c2 => unfold maxLen; omega
  case c3 => exact Nat.le_refl _
  intro w1 hown hgrow
  have hbel : Below w.heap.size w w1 := (Below.refl _ _).grown hgrow (Nat.le_refl _) (fun k hk => by cases hk)
  have hzl := own_len hown
  generalize Array.toList (madeCells _ _) = z0 at *
  clear hgrow
  go_wp2
  go_loopw [4] (fun i wr => ∃ k : Nat, k ≤ xs.length ∧ i = .int .i64 k ∧ (∃ zs : List Value, zs.length = xs.length ∧ Hid (zs.take k = (xs.map Value.string).take k) ∧ wr.ownsRow w.heap.size 9 1 (.slice (some ⟨w.heap.size, 0, none⟩) xs.length xs.length) xs.length zs) ∧ Below w.heap.size w wr)
    (fun i _ => xs.length - (RowKit.intOf i).toNat)
  case atStart => exact ⟨0, Nat.zero_le _, rfl, ⟨z0, hzl, rfl, hown⟩, hbel⟩
  case round =>
    obtain ⟨k, hk, rfl, ⟨zs, hzs, HT, hown⟩, hbel⟩ := hrel
    by_cases hlt : k < xs.length
    · obtain ⟨b, off, rfl, hbl, hcx0⟩ := str_at HC.out k hlt
      have hcx : wr.cell? ⟨b, off + k, none⟩ = some (.string xs[k]) := by rw [hbel.cell (p := ⟨b, off + k, none⟩) hbl]; exact hcx0
      have hoc : wr.cell? ⟨w.heap.size, k, none⟩ = some (zs[k]'(by omega)) := by rw [hown.cellAt k (by omega)]; exact List.getElem?_eq_getElem _
      have hof := hown.frozenAt k
      have hown2 := (hown.stored k (.string xs[k])).1
      have HT2 : Hid ((zs.set k (.string xs[k])).take (k + 1) = (xs.map Value.string).take (k + 1)) := by
        have := take_set_succ zs (xs.map Value.string) k (by omega) (by simpa using hlt) HT.out
        show _ = _
        simpa using this
      clear hcx0 hown
      generalize zs[k] = old at *
      go_wp2
      go_roundw
      case rel => exact ⟨k + 1, by omega, by go_num, ⟨_, by simpa using hzs, HT2, hown2⟩, own_stored_below hbel (Nat.le_refl _)⟩
      case measure => simp [RowKit.intOf]; omega
    · go_wp2
      go_ret
      refine ⟨_, rfl, ?_, hbel⟩
      have := HT.out
      rw [List.take_of_length_le (by omega), List.take_of_length_le (by simp; omega)] at this
      rw [← this]; exact hown

set_option maxHeartbeats 1000000 in
theorem eqStringS_same (v v' : Value) (xs : List ByteArray) (w : World) (hr : RowAt w v (xs.map .string)) (hr' : RowAt w v' (xs.map .string)) (hn : xs.length ≤ 1048576) :
    Calls Try.prog 89 #[v, v'] w fun e w' => e = .returned (.bool true) ∧ ∃ m, w' = w.drewN m := by
  obtain ⟨a, c, rfl, hc, hm, hcell⟩ := hr
  obtain ⟨a', c', rfl, hc', hm', hcell'⟩ := hr'
  rw [List.length_map] at *
  have HC := Lib.hid hcell
  have HC' := Lib.hid hcell'
  clear hcell hcell'
  go_enter Try.func89, Try.ntmps89
  go_wp2
  go_loopw [5] (fun i wr => ∃ k : Nat, k ≤ xs.length ∧ i = .int .i64 k ∧ ∃ m, wr = w.drewN m)
    (fun i _ => xs.length - (RowKit.intOf i).toNat)
  case atStart => exact ⟨0, Nat.zero_le _, rfl, 0, rfl⟩
  case round =>
    obtain ⟨k, hk, rfl, m, rfl⟩ := hrel
    by_cases hlt : k < xs.length
    · obtain ⟨b, off, rfl, _, hcx⟩ := str_at HC.out k hlt
      obtain ⟨b', off', rfl, _, hcx'⟩ := str_at HC'.out k hlt
      generalize xs[k] = y at *
      have hk1 : (k : Int) < (xs.length : Int) := by omega
      have hyy : (y.toList == y.toList) = true := by simp
      go_wp2
      go_quiet (fail)
      go_wp2
      go_roundw
      case rel => exact ⟨k + 1, by omega, by go_num, _, rfl⟩
      case measure => simp [RowKit.intOf]; omega
    · go_wp2
      go_ret
      exact ⟨rfl, _, rfl⟩
end Go.Proofs.Ytfgkfdkdjegaiaa

namespace Go.Proofs.Ytfgkfdkdjegaiaa
open Go.RowKit
set_option linter.unusedVariables false

theorem infoInt : (Try.prog.info? 3).map (fun i => (i.zero, i.size, i.bytes)) = some (some (.int .i64 0), 1, 8) := by kernel_rfl

theorem szIntS_any (v : Value) (xs : List Int) (left : Int) (w : World) (hr : RowAt w v (ints xs)) (h0 : 0 ≤ left) (h1 : left ≤ 1048576) :
    Calls Try.prog 122 #[v, .int .i64 left] w fun e w' => (∃ r : Int, e = .returned (.int .i64 r) ∧ (r = -1 ∨ (0 ≤ r ∧ (xs.length : Int) + r = left))) ∧ w = w' := by
  obtain ⟨a, c, rfl, hc, hm, HC⟩ := ints_open hr
  clear hr
  by_cases hneg : left - (xs.length : Int) < 0
  · go_enter Try.func122, Try.ntmps122
    go_wp2
    go_ret
    exact ⟨⟨-1, rfl, .inl rfl⟩, rfl⟩
  · go_enter Try.func122, Try.ntmps122
    go_wp2
    go_ret
    exact ⟨⟨_, rfl, .inr ⟨by omega, by omega⟩⟩, rfl⟩

set_option maxHeartbeats 1000000 in
theorem toIntS_any (v : Value) (xs : List Int) (w : World) (hr : RowAt w v (ints xs)) (hn : xs.length ≤ 1048576) :
    Calls Try.prog 123 #[v] w fun e w' => ∃ c, e = .returned (.slice (some ⟨w.heap.size, 0, none⟩) xs.length c) ∧ w'.ownsRow w.heap.size 3 1 (.slice (some ⟨w.heap.size, 0, none⟩) xs.length c) xs.length (ints xs) ∧ Below w.heap.size w w' := by
  obtain ⟨a, c, rfl, hc, hm, HC⟩ := ints_open hr
  clear hr
  obtain ⟨i0, hi, hz0, hz1, hz2⟩ := info_parts infoInt
  go_enter Try.func123, Try.ntmps123
  go_wp2_with (at_make; refine wpList_make_full _ rfl _ _ 31 rfl w.heap.size 3 i0 (.int .i64 0) 1 Try.underlying31 hi hz0 hz1 .i64 .i64 (xs.length : Int) (xs.length : Int) xs.length rfl rfl rfl rfl ?c1 ?c2 ?c3 ?_)
  case c1 => rw [hz2]; omega
  case c2 => unfold maxLen; omega
  case c3 => exact Nat.le_refl _
  intro w1 hown hgrow
  have hbel : Below w.heap.size w w1 := (Below.refl _ _).grown hgrow (Nat.le_refl _) (fun k hk => by cases hk)
  have hzl := own_len hown
  generalize Array.toList (madeCells _ _) = z0 at *
  clear hgrow
  go_wp2
  go_loopw [4] (fun i wr => ∃ k : Nat, k ≤ xs.length ∧ i = .int .i64 k ∧ (∃ zs : List Value, zs.length = xs.length ∧ Hid (zs.take k = (ints xs).take k) ∧ wr.ownsRow w.heap.size 3 1 (.slice (some ⟨w.heap.size, 0, none⟩) xs.length xs.length) xs.length zs) ∧ Below w.heap.size w wr)
    (fun i _ => xs.length - (RowKit.intOf i).toNat)
  case atStart => exact ⟨0, Nat.zero_le _, rfl, ⟨z0, hzl, rfl, hown⟩, hbel⟩
  case round =>
    obtain ⟨k, hk, rfl, ⟨zs, hzs, HT, hown⟩, hbel⟩ := hrel
    by_cases hlt : k < xs.length
    · obtain ⟨b, off, rfl, hbl, hcx0⟩ := HC.out k hlt
      have hcx : wr.cell? ⟨b, off + k, none⟩ = some (.int .i64 xs[k]) := by rw [hbel.cell (p := ⟨b, off + k, none⟩) hbl]; exact hcx0
      have hoc : wr.cell? ⟨w.heap.size, k, none⟩ = some (zs[k]'(by omega)) := by rw [hown.cellAt k (by omega)]; exact List.getElem?_eq_getElem _
      have hof := hown.frozenAt k
      have hown2 := (hown.stored k (.int .i64 xs[k])).1
      have HT2 : Hid ((zs.set k (.int .i64 xs[k])).take (k + 1) = (ints xs).take (k + 1)) := by
        have := take_set_succ zs (ints xs) k (by omega) (by simpa [ints] using hlt) HT.out
        show _ = _
        simpa [ints] using this
      clear hcx0 hown
      generalize zs[k] = old at *
      generalize xs[k] = y at *
      go_wp2
      go_roundw
      case rel => exact ⟨k + 1, by omega, by go_num, ⟨_, by simpa using hzs, HT2, hown2⟩, own_stored_below hbel (Nat.le_refl _)⟩
      case measure => simp [RowKit.intOf]; omega
    · go_wp2
      go_ret
      refine ⟨xs.length, rfl, ?_, hbel⟩
      have := HT.out
      rw [List.take_of_length_le (by omega), List.take_of_length_le (by simp [ints]; omega)] at this
      rw [← this]; exact hown

set_option maxHeartbeats 1000000 in
theorem eqIntS_same (v v' : Value) (xs : List Int) (w : World) (hr : RowAt w v (ints xs)) (hr' : RowAt w v' (ints xs)) :
    Calls Try.prog 48 #[v, v'] w fun e w' => e = .returned (.bool true) ∧ Below w.heap.size w w' := by
  obtain ⟨a, c, rfl, hc, hm, HC⟩ := ints_open hr
  obtain ⟨a', c', rfl, hc', hm', HC'⟩ := ints_open hr'
  clear hr hr'
  go_enter Try.func48, Try.ntmps48
  go_wp2
  go_loopw [5] (fun i wr => ∃ k : Nat, k ≤ xs.length ∧ i = .int .i64 k ∧ ∃ m, wr = w.drewN m)
    (fun i _ => xs.length - (RowKit.intOf i).toNat)
  case atStart => exact ⟨0, Nat.zero_le _, rfl, 0, rfl⟩
  case round =>
    obtain ⟨k, hk, rfl, m, rfl⟩ := hrel
    by_cases hlt : k < xs.length
    · obtain ⟨b, off, rfl, _, hcx⟩ := HC.out k hlt
      obtain ⟨b', off', rfl, _, hcx'⟩ := HC'.out k hlt
      generalize xs[k] = y at *
      have hk1 : (k : Int) < (xs.length : Int) := by omega
      have hyy : (y != y) = false := by simp
      go_wp2
      go_quiet (fail)
      go_wp2
      go_roundw
      case rel => exact ⟨k + 1, by omega, by go_num, _, rfl⟩
      case measure => simp [RowKit.intOf]; omega
    · go_wp2
      go_ret
      exact ⟨rfl, Dr.below ⟨m, rfl⟩⟩

set_option maxHeartbeats 1000000 in
theorem markIntS_own (v : Value) (xs : List Int) (k : Int) (B : Nat) (w : World) (hr : w.ownsRow B 3 1 v xs.length (ints xs)) (hn : xs.length ≤ 1048576) (hk0 : 0 ≤ k) (hk : k ≤ 1073741824) :
    Calls Try.prog 51 #[v, .int .i64 k] w fun e w' => e = .returned (.int .i64 (k + xs.length)) ∧ w'.ownsRow B 3 1 v xs.length (ints (countUp k xs.length)) ∧ w.grownBy w' v.ownBlock := by
  obtain ⟨a, c, rfl⟩ := own_shape hr
  have HO := Lib.hid hr
  clear hr
  go_enter Try.func51, Try.ntmps51
  go_wp2
  go_loopw [1, 5] (fun q i wr => ∃ j : Nat, j ≤ xs.length ∧ i = .int .i64 j ∧ q = .int .i64 (k + j) ∧ (∃ zs : List Value, zs.length = xs.length ∧ Hid (zs.take j = (ints (countUp k xs.length)).take j) ∧ Hid (wr.ownsRow B 3 1 (.slice a xs.length c) xs.length zs)) ∧ Hid (w.grownBy wr (Value.ownBlock (.slice a xs.length c))))
    (fun _ i _ => xs.length - (RowKit.intOf i).toNat)
  case atStart => exact ⟨0, Nat.zero_le _, rfl, by simp, ⟨_, ints_len xs, rfl, HO.out⟩, World.grownBy.refl _ _⟩
  case round =>
    obtain ⟨j, hj, rfl, rfl, ⟨zs, hzs, HT, HOwn⟩, HG⟩ := hrel
    by_cases hlt : j < xs.length
    · obtain ⟨_, h2⟩ := HOwn.out
      rcases h2 with ⟨hv, h0⟩ | ⟨g, cap, cur, hv, hg, hblk, h3, h4, h5, h6⟩
      · omega
      simp at hv
      obtain ⟨rfl, rfl⟩ := hv
      have hown := HOwn.out
      have hoc : wr.cell? ⟨g, j, none⟩ = some (zs[j]'(by omega)) := by rw [hown.cellAt j (by omega)]; exact List.getElem?_eq_getElem _
      have hof := hown.frozenAt j
      have HOwn2 := Lib.hid (hown.stored j (.int .i64 (k + j))).1
      have HT2 : Hid ((zs.set j (.int .i64 (k + j))).take (j + 1) = (ints (countUp k xs.length)).take (j + 1)) := by
        have hl2 : j < (ints (countUp k xs.length)).length := by rw [ints_len, countUp_len]; exact hlt
        have := take_set_succ zs (ints (countUp k xs.length)) j (by omega) hl2 HT.out
        have e : (ints (countUp k xs.length))[j]'hl2 = .int .i64 (k + j) := by simp only [ints, List.getElem_map]; rw [countUp_get]
        rw [e] at this; exact this
      have HG2 : Hid (w.grownBy (wr.setCell ⟨g, j, none⟩ (.int .i64 (k + j))) (some g)) :=
        ⟨HG.out.os, HG.out.tape, HG.out.output, by have := HG.out.size; simp [World.setCell]; omega, fun q hq hne => by
          rw [Below.heap_setCell _ _ _ _ (fun e => hne (by rw [e]))]; exact HG.out.block q hq hne⟩
      clear HG
      clear hown hblk h4 h5 h6
      generalize zs[j] = old at *
      go_wp2
      go_roundw
      case rel => exact ⟨j + 1, by omega, by go_num, by go_num, ⟨_, by simpa using hzs, HT2, HOwn2⟩, HG2⟩
      case measure => simp [RowKit.intOf]; omega
    · have hjl : j = xs.length := by omega
      subst hjl
      go_wp2
      go_ret
      refine ⟨rfl, ?_, HG.out⟩
      have := HT.out
      rw [List.take_of_length_le (by omega), List.take_of_length_le (by rw [ints_len, countUp_len]; omega)] at this
      rw [← this]; exact HOwn.out

theorem heldIntS_own (v : Value) (k : Int) (n : Nat) (w : World) (hr : RowAt w v (ints (countUp k n))) (hn : n ≤ 1048576) (hk0 : 0 ≤ k) (hk : k ≤ 1073741824) :
    Calls Try.prog 52 #[v, .int .i64 k] w fun e w' => e = .returned (.int .i64 (k + n)) ∧ w = w' := by
  obtain ⟨a, c, rfl, hc, hm, HC⟩ := ints_open hr
  rw [countUp_len] at *
  clear hr
  go_enter Try.func52, Try.ntmps52
  go_wp2
  go_loop [1, 5] (fun q i => ∃ j : Nat, j ≤ n ∧ i = .int .i64 j ∧ q = .int .i64 (k + j)) (fun _ i => n - (RowKit.intOf i).toNat)
  case atStart => exact ⟨0, Nat.zero_le _, rfl, by simp⟩
  case round =>
    obtain ⟨j, hj, rfl, rfl⟩ := hrel
    by_cases hlt : j < n
    · obtain ⟨b, off, rfl, _, hcx⟩ := HC.out j (by rw [countUp_len]; exact hlt)
      rw [countUp_get] at hcx
      have hne : (k + (j : Int) != k + (j : Int)) = false := by simp
      go_wp2
      go_round
      case rel => exact ⟨j + 1, by omega, by go_num, by go_num⟩
      case measure => simp [RowKit.intOf]; omega
    · have hjl : j = n := by omega
      subst hjl
      go_wp2
      go_ret
      exact ⟨rfl, rfl⟩
end Go.Proofs.Ytfgkfdkdjegaiaa

namespace Go.Proofs.Ytfgkfdkdjegaiaa
open Go.RowKit
set_option linter.unusedVariables false

theorem l1In_yes (a lo hi : Int) (w : World) (h : lo ≤ a ∧ a ≤ hi) : Calls Try.prog 66 #[.int .i64 a, .int .i64 lo, .int .i64 hi] w fun e w' => e = .returned (.bool true) ∧ w = w' := by
  obtain ⟨h1, h2⟩ := h
  go_enter Try.func66, Try.ntmps66
  go_wp2
  go_ret
  exact ⟨rfl, rfl⟩
theorem l1In_no (a lo hi : Int) (w : World) (h : ¬ (lo ≤ a ∧ a ≤ hi)) : Calls Try.prog 66 #[.int .i64 a, .int .i64 lo, .int .i64 hi] w fun e w' => e = .returned (.bool false) ∧ w = w' := by
  by_cases h1 : lo ≤ a
  · have h2 : ¬ a ≤ hi := fun g => h ⟨h1, g⟩
    clear h
    go_enter Try.func66, Try.ntmps66
    go_wp2
    go_ret
    exact ⟨rfl, rfl⟩
  · clear h
    go_enter Try.func66, Try.ntmps66
    go_wp2
    go_ret
    exact ⟨rfl, rfl⟩
end Go.Proofs.Ytfgkfdkdjegaiaa

namespace Go.Proofs.Ytfgkfdkdjegaiaa
open Go.RowKit Go.Maps

def memB {α : Type} [DecidableEq α] (x : α) (S : List α) : Bool := decide (x ∈ S)
theorem memB_yes {α : Type} [DecidableEq α] {x : α} {S : List α} (h : x ∈ S) : memB x S = true := decide_eq_true h
theorem memB_no {α : Type} [DecidableEq α] {x : α} {S : List α} (h : x ∉ S) : memB x S = false := decide_eq_false h

/-- block b is a map from k to bools (element type e) that holds true at the keys of S and at no others -/
def SetOf {α : Type} [DecidableEq α] (P : Program) (k e : TypeId) (lit : α → Lit) (b : Nat) (S : List α) (w : World) : Prop :=
  ∃ D : DataW Unit, w.ownsMap P k (plainElem P e) b S.length D ∧ IsMap D ∧ (∀ x, D.atKey (lit x) (.lit (.bool false)) = .lit (.bool (memB x S))) ∧ ∀ x, has D (lit x) = memB x S

section
variable {α : Type} [DecidableEq α] {P : Program} {k e t : TypeId} {lit : α → Lit} {b : Nat} {S : List α} {w : World}

theorem SetOf.made (w : World) (P : Program) (k e : TypeId) (lit : α → Lit) : SetOf P k e lit w.heap.size [] (w.alloc (.map #[] 0)) :=
  ⟨.map [], World.ownsMap_made w P k _, isMap_empty, fun x => by simp [DataW.atKey, memB], fun x => by simp [has, memB]⟩

theorem SetOf.lt (h : SetOf P k e lit b S w) : b < w.heap.size := by obtain ⟨_, h, _⟩ := h; exact h.lt
theorem SetOf.kept {w' : World} {row : Option Nat} (h : SetOf P k e lit b S w) (hg : w.grownBy w' row) (hne : some b ≠ row) : SetOf P k e lit b S w' := by
  obtain ⟨D, h1, h2, h3⟩ := h; exact ⟨D, h1.kept hg hne, h2, h3⟩
theorem SetOf.block {w' : World} (h : SetOf P k e lit b S w) (hb : w'.heap[b]? = w.heap[b]?) : SetOf P k e lit b S w' := by
  obtain ⟨D, ⟨es, cl, g1, g2, g3, g4⟩, h2, h3⟩ := h; exact ⟨D, ⟨es, cl, hb.trans g1, g2, g3, g4⟩, h2, h3⟩

theorem SetOf.look (h : SetOf P k e lit b S w) (K : Keyed P k) (ht : P.underlying t = some (.map k e)) (he : P.underlying e = some .bool) (hz : (zeroValue e).run P w = .ok (.bool false) w)
    {key : Value} {x : α} (hkey : keyOf P k key = some (lit x)) : (Instr.lookup t (.map (some b)) key false).run P w = .ok (.bool (memB x S)) w := by
  obtain ⟨D, h1, _, h3⟩ := h
  obtain ⟨v, ps, hrun, hv⟩ := h1.lookup K ht hz (plainElem_bool he false) hkey
  rw [h3.1] at hv
  have hv' : v = .bool (memB x S) := by
    unfold plainElem at hv
    rw [he] at hv
    cases v <;> simp at hv
    rw [hv.1]
  rw [hrun, hv']

theorem SetOf.put (h : SetOf P k e lit b S w) (K : Keyed P k) (ht : P.underlying t = some (.map k e)) (he : P.underlying e = some .bool) (hinj : ∀ x y, lit x = lit y → x = y) (hn : S.length < maxLen)
    {key : Value} {x : α} (hkey : keyOf P k key = some (lit x)) : ∃ w', (Instr.mapUpdate t (.map (some b)) key (.bool true)).run P w = .ok () w' ∧ SetOf P k e lit b (S ++ [x]) w' ∧ w.grownBy w' (some b) := by
  obtain ⟨D, h1, h2, h3⟩ := h
  obtain ⟨w', hrun, hown, hg⟩ := h1.update K ht hn hkey (plainElem_bool he true)
  refine ⟨w', hrun, ⟨_, by simpa using hown, h2.put _ _, fun y => ?_, fun y => ?_⟩, hg⟩
  · by_cases hxy : y = x
    · subst hxy
      rw [atKey_put_same h2 (K.key hkey)]; simp [memB]
    · rw [atKey_put_other (fun e => hxy (hinj _ _ e)), h3.1]; simp [hxy, memB]
  · by_cases hxy : y = x
    · subst hxy
      rw [has_put_same h2 (K.key hkey)]; simp [memB]
    · rw [has_put_other (fun e => hxy (hinj _ _ e)), h3.2]; simp [hxy, memB]
end

/-- the two kinds of keys -/
def sLit (s : ByteArray) : Lit := .string s.data.toList
def iLit (n : Int) : Lit := .int .i64 n
theorem sLit_inj (x y : ByteArray) (h : sLit x = sLit y) : x = y := by
  cases x; cases y; simp [sLit] at h; rw [h]
theorem iLit_inj (x y : Int) (h : iLit x = iLit y) : x = y := by simpa [iLit] using h
end Go.Proofs.Ytfgkfdkdjegaiaa

namespace Go.Proofs.Ytfgkfdkdjegaiaa
open Go.RowKit
set_option linter.unusedVariables false

def IntsSmall (xs : List Int) : Prop := xs.length ≤ 1048576

theorem toIntS_x (v : Value) (xs : List Int) (w : World) (hr : RowAt w v (ints xs)) (hs : IntsSmall xs) :
    Calls Try.prog 123 #[v] w fun e w' => ∃ a c, e = .returned (.slice a xs.length c) ∧ IntsIn w.heap.size w'.heap.size w' (.slice a xs.length c) xs ∧ Below w.heap.size w w' :=
  (toIntS_any v xs w hr hs).mono fun e w' ⟨c, he, ho, hb⟩ => ⟨_, c, he, IntsIn.mk ho, hb⟩

theorem eqIntS_x (v v' : Value) (xs : List Int) (w : World) (hr : RowAt w v (ints xs)) (hr' : RowAt w v' (ints xs)) (hs : IntsSmall xs) :
    Calls Try.prog 48 #[v, v'] w fun e w' => e = .returned (.bool true) ∧ Below w.heap.size w w' := eqIntS_same v v' xs w hr hr'

/-- numbers that hold marks from k on -/
def IntsMk (k : Int) (w : World) (v : Value) (xs : List Int) : Prop := RowAt w v (ints (countUp k xs.length))
theorem IntsMk.later {k : Int} {w w' : World} {v : Value} {xs : List Int} (h : IntsMk k w v xs) (hb : Below w.heap.size w w') : IntsMk k w' v xs := RowAt.below h rfl hb

theorem markIntS_x (v : Value) (xs : List Int) (k : Int) (l u : Nat) (w : World) (hr : IntsIn l u w v xs) (hl : l ≤ w.heap.size) (hs : IntsSmall xs) (hk0 : 0 ≤ k) (hk : k ≤ 1073741824) :
    Calls Try.prog 51 #[v, .int .i64 k] w fun e w' => e = .returned (.int .i64 (k + (xs.length : Int))) ∧ IntsMk k w' v xs ∧ w.grownBy w' v.ownBlock ∧ Out l u w w' :=
  (markIntS_own v xs k l w hr.1 hs hk0 hk).mono fun e w' ⟨he, ho, hg⟩ => ⟨he, rowAt_own (n := xs.length) ho, hg, Out.of_grown hg hl (fun g hg' => ⟨hr.lo g hg', hr.2 g hg'⟩)⟩

theorem heldIntS_x (v : Value) (xs : List Int) (k : Int) (w : World) (hr : IntsMk k w v xs) (hs : IntsSmall xs) (hk0 : 0 ≤ k) (hk : k ≤ 1073741824) :
    Calls Try.prog 52 #[v, .int .i64 k] w fun e w' => e = .returned (.int .i64 (k + (xs.length : Int))) ∧ Below w.heap.size w w' :=
  (heldIntS_own v k xs.length w hr hs hk0 hk).mono fun e w' ⟨he, hw⟩ => ⟨he, by subst hw; exact Below.refl _ _⟩
end Go.Proofs.Ytfgkfdkdjegaiaa
