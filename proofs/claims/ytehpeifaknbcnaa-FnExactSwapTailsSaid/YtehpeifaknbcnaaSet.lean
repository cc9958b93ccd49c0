import Derived.WalkKit
import Derived.Maps.Own
import Derived.Maps.Views
namespace Go.Proofs.Ytehpeifaknbcnaa
open Go.RowKit Go.Maps

def memB {α : Type} [DecidableEq α] (x : α) (S : List α) : Bool := decide (x ∈ S)
theorem memB_yes {α : Type} [DecidableEq α] {x : α} {S : List α} (h : x ∈ S) : memB x S = true := decide_eq_true h
theorem memB_no {α : Type} [DecidableEq α] {x : α} {S : List α} (h : x ∉ S) : memB x S = false := decide_eq_false h

def SetOf {α : Type} [DecidableEq α] (P : Program) (k e : TypeId) (lit : α → Lit) (b : Nat) (S : List α) (w : World) : Prop :=
  ∃ D : DataW Unit, w.ownsMap P k (plainElem P e) b S.length D ∧ IsMap D ∧ (∀ x, D.atKey (lit x) (.lit (.bool false)) = .lit (.bool (memB x S))) ∧ ∀ x, has D (lit x) = memB x S

section
variable {α : Type} [DecidableEq α] {P : Program} {k e t : TypeId} {lit : α → Lit} {b : Nat} {S : List α} {w : World}

theorem SetOf.made (w : World) (P : Program) (k e : TypeId) (lit : α → Lit) : SetOf P k e lit w.heap.size [] (w.alloc (.map #[] 0)) :=
  ⟨.map [], World.ownsMap_made w P k _, isMap_empty, fun x => by simp [DataW.atKey, memB], fun x => by simp [has, memB]⟩

theorem SetOf.lt (h : SetOf P k e lit b S w) : b < w.heap.size := by obtain ⟨_, h, _⟩ := h; exact h.lt
theorem SetOf.kept {w' : World} {row : Option Nat} (h : SetOf P k e lit b S w) (hg : w.grownBy w' row) (hne : some b ≠ row) : SetOf P k e lit b S w' := by
  obtain ⟨D, h1, h2, h3⟩ := h; exact ⟨D, h1.kept hg hne, h2, h3⟩
theorem SetOf.block {w' : World} (h : SetOf P k e lit b S w) (hb : w'.heap[b]? = w.heap[b]?) : SetOf P k e lit b S w' := by
  obtain ⟨D, ⟨es, cl, g1, g2, g3, g4⟩, h2, h3⟩ := h; exact ⟨D, ⟨es, cl, hb.trans g1, g2, g3, g4⟩, h2, h3⟩

theorem SetOf.look (h : SetOf P k e lit b S w) (K : Keyed P k) (ht : P.underlying t = some (.map k e)) (he : P.underlying e = some .bool) (hz : (zeroValue e).run P w = .ok (.bool false) w)
    {key : Value} {x : α} (hkey : keyOf P k key = some (lit x)) : (Instr.lookup t (.map (some b)) key false).run P w = .ok (.bool (memB x S)) w := by
  obtain ⟨D, h1, _, h3⟩ := h
  obtain ⟨v, ps, hrun, hv⟩ := h1.lookup K ht hz (plainElem_bool he false) hkey
  rw [h3.1] at hv
  have hv' : v = .bool (memB x S) := by
    unfold plainElem at hv
    rw [he] at hv
    cases v <;> simp at hv
    rw [hv.1]
  rw [hrun, hv']

theorem SetOf.put (h : SetOf P k e lit b S w) (K : Keyed P k) (ht : P.underlying t = some (.map k e)) (he : P.underlying e = some .bool) (hinj : ∀ x y, lit x = lit y → x = y) (hn : S.length < maxLen)
    {key : Value} {x : α} (hkey : keyOf P k key = some (lit x)) : ∃ w', (Instr.mapUpdate t (.map (some b)) key (.bool true)).run P w = .ok () w' ∧ SetOf P k e lit b (S ++ [x]) w' ∧ w.grownBy w' (some b) := by
  obtain ⟨D, h1, h2, h3⟩ := h
  obtain ⟨w', hrun, hown, hg⟩ := h1.update K ht hn hkey (plainElem_bool he true)
  refine ⟨w', hrun, ⟨_, by simpa using hown, h2.put _ _, fun y => ?_, fun y => ?_⟩, hg⟩
  · by_cases hxy : y = x
    · subst hxy
      rw [atKey_put_same h2 (K.key hkey)]; simp [memB]
    · rw [atKey_put_other (fun e => hxy (hinj _ _ e)), h3.1]; simp [hxy, memB]
  · by_cases hxy : y = x
    · subst hxy
      rw [has_put_same h2 (K.key hkey)]; simp [memB]
    · rw [has_put_other (fun e => hxy (hinj _ _ e)), h3.2]; simp [hxy, memB]
end

def sLit (s : ByteArray) : Lit := .string s.data.toList
def iLit (n : Int) : Lit := .int .i64 n
theorem sLit_inj (x y : ByteArray) (h : sLit x = sLit y) : x = y := by
  cases x; cases y; simp [sLit] at h; rw [h]
theorem iLit_inj (x y : Int) (h : iLit x = iLit y) : x = y := by simpa [iLit] using h
end Go.Proofs.Ytehpeifaknbcnaa
