/-
  PLAIN WORDS, of no program: a map that the call itself made, whose elements are taken as the values that were stored (slices' headers), told key by key.
-/
import Derived.WalkKit
import Derived.Maps.Own
import Derived.Maps.OwnSet
import Derived.Maps.Views
import Derived.Test.YtfgkfdkdjegaiaaSet
namespace Go.Proofs.Ytfgkfdkdjegaiaa
open Go.RowKit Go.Maps
set_option linter.unusedVariables false

def hdrR (v : Value) : Option (DataW Value × List MemPlace) := some (.held v, [])
/-- block b is a map of at most n entries: the key kl is there if p says so, and what stands there is f kl (z: the zero value) -/
def HdrMap (P : Program) (k : TypeId) (z : Value) (b n : Nat) (f : Lit → Value) (p : Lit → Bool) (w : World) : Prop :=
  ∃ D : DataW Value, w.ownsMap P k hdrR b n D ∧ IsMap D ∧ (∀ kl, D.atKey kl (.held z) = .held (f kl)) ∧ ∀ kl, has D kl = p kl
open Classical in
noncomputable def updF (f : Lit → Value) (kl : Lit) (v : Value) (x : Lit) : Value := if x = kl then v else f x
open Classical in
noncomputable def updP (p : Lit → Bool) (kl : Lit) (x : Lit) : Bool := if x = kl then true else p x
theorem updF_same (f : Lit → Value) (kl : Lit) (v : Value) : updF f kl v kl = v := if_pos rfl
theorem updF_other (f : Lit → Value) {kl x : Lit} (v : Value) (h : x ≠ kl) : updF f kl v x = f x := if_neg h
theorem updP_same (p : Lit → Bool) (kl : Lit) : updP p kl kl = true := if_pos rfl
theorem updP_other (p : Lit → Bool) {kl x : Lit} (h : x ≠ kl) : updP p kl x = p x := if_neg h
section
variable {P : Program} {k e t : TypeId} {z : Value} {b n : Nat} {f : Lit → Value} {p : Lit → Bool} {w : World}
theorem HdrMap.made (w : World) (P : Program) (k : TypeId) (z : Value) : HdrMap P k z w.heap.size 0 (fun _ => z) (fun _ => false) (w.alloc (.map #[] 0)) :=
  ⟨.map [], World.ownsMap_made w P k _, isMap_empty, fun x => by simp [DataW.atKey], fun x => by simp [has]⟩
theorem HdrMap.lt (h : HdrMap P k z b n f p w) : b < w.heap.size := by obtain ⟨_, h, _⟩ := h; exact h.lt
theorem HdrMap.block {w' : World} (h : HdrMap P k z b n f p w) (hb : w'.heap[b]? = w.heap[b]?) : HdrMap P k z b n f p w' := by
  obtain ⟨D, ⟨es, cl, g1, g2, g3, g4⟩, h2, h3⟩ := h; exact ⟨D, ⟨es, cl, hb.trans g1, g2, g3, g4⟩, h2, h3⟩
theorem HdrMap.kept {w' : World} {row : Option Nat} (h : HdrMap P k z b n f p w) (hg : w.grownBy w' row) (hne : some b ≠ row) : HdrMap P k z b n f p w' := h.block (hg.block b h.lt hne)
theorem HdrMap.later {w' : World} (h : HdrMap P k z b n f p w) (hb : Below w.heap.size w w') : HdrMap P k z b n f p w' := h.block (hb.block b h.lt)
theorem HdrMap.setCell (h : HdrMap P k z b n f p w) {a : Addr} (ha : b ≠ a.block) (u : Value) : HdrMap P k z b n f p (w.setCell a u) := by
  obtain ⟨D, h1, h2⟩ := h; exact ⟨D, h1.setCell ha u, h2⟩
theorem HdrMap.look (h : HdrMap P k z b n f p w) (K : Keyed P k) (ht : P.underlying t = some (.map k e)) (hz : ∀ w, (zeroValue e).run P w = .ok z w) {key : Value} {kl : Lit} (hkey : keyOf P k key = some kl) :
    (Instr.lookup t (.map (some b)) key false).run P w = .ok (f kl) w := by
  obtain ⟨D, h1, _, h3, _⟩ := h
  obtain ⟨v, ps, hrun, hv⟩ := h1.lookup K ht (hz w) (zd := .held z) (zp := []) rfl hkey
  rw [h3] at hv
  simp [hdrR] at hv
  rw [hrun, hv.1]
theorem HdrMap.lookOk (h : HdrMap P k z b n f p w) (K : Keyed P k) (ht : P.underlying t = some (.map k e)) (hz : ∀ w, (zeroValue e).run P w = .ok z w) {key : Value} {kl : Lit} (hkey : keyOf P k key = some kl) :
    (Instr.lookup t (.map (some b)) key true).run P w = .ok (.tuple #[f kl, .bool (p kl)]) w := by
  obtain ⟨D, h1, _, h3, h4⟩ := h
  obtain ⟨v, ps, hrun, hv⟩ := h1.look_ok K ht (hz w) (zd := .held z) (zp := []) rfl hkey
  rw [h3] at hv
  simp [hdrR] at hv
  rw [hrun, hv.1, h4]
theorem HdrMap.put (h : HdrMap P k z b n f p w) (K : Keyed P k) (ht : P.underlying t = some (.map k e)) (hn : n < maxLen) {key v : Value} {kl : Lit} (hkey : keyOf P k key = some kl) :
    ∃ w', (Instr.mapUpdate t (.map (some b)) key v).run P w = .ok () w' ∧ HdrMap P k z b (n + 1) (updF f kl v) (updP p kl) w' ∧ w.grownBy w' (some b) := by
  obtain ⟨D, h1, h2, h3, h4⟩ := h
  obtain ⟨w', hrun, hown, hg⟩ := h1.update K ht hn hkey (d := .held v) (ps := []) rfl
  refine ⟨w', hrun, ⟨_, hown, h2.put _ _, fun y => ?_, fun y => ?_⟩, hg⟩
  · by_cases hxy : y = kl
    · subst hxy
      rw [atKey_put_same h2 (K.key hkey), updF_same]
    · rw [atKey_put_other hxy, h3, updF_other f v hxy]
  · by_cases hxy : y = kl
    · subst hxy
      rw [has_put_same h2 (K.key hkey), updP_same]
    · rw [has_put_other hxy, h4, updP_other p hxy]
end
end Go.Proofs.Ytfgkfdkdjegaiaa
