import Derived.Test.YtemejcbilhcebaaCur
import Derived.ProofKit
import Derived.OpenShut
namespace Go.Proofs.Ytemejcbilhcebaa
open Go.RowKit Go.ChangeShapes Go.WideShapes Go.ChangeAt
set_option linter.unusedVariables false

set_option maxRecDepth 100000 in
theorem codeAt_of {H : Type} {enc : TypeId × Value → H} {W : World} {base base' : Nat} {spare : Nat → Bool} {held : Bool} {v : Value} {d : DataW H} {p : List MemPlace}
    (hv : Value.okWide Try.prog W .any base 22 v) (h : DataW.Trod enc Try.prog W base' spare held 22 v d p) : CodeAt W v := by
  obtain ⟨a, len, cap, rfl⟩ := okWide_slice Try.underlying22 hv
  obtain ⟨fuel, hf⟩ := h
  rcases open_ints Try.underlying22 Try.underlying5 (by kernel_rfl) hf with ⟨hcs, _⟩ | ⟨x, l, c, zs, hcs, _, hl, hm, hz, _, hcell, hwz⟩
  · simp [Value.cells] at hcs
    obtain ⟨rfl, rfl, rfl⟩ := hcs
    exact ⟨[], none, 0, rfl, Nat.le_refl _, by decide, fun k u hu => by simp at hu⟩
  · simp [Value.cells] at hcs
    obtain ⟨rfl, rfl, rfl⟩ := hcs
    have hz' : len ≤ zs.length := by rw [hz]; split <;> omega
    refine ⟨(zs.take len).map fun z => UInt8.ofNat z.toNat, some x, cap, by simp [Nat.min_eq_left hz'], by simp; omega, hm, fun k u hu => ?_⟩
    have hk : k < len := by have := (List.getElem?_eq_some_iff.1 hu).1; simp at this; omega
    have hk' : k < zs.length := by omega
    have hcl := hcell k hk'
    obtain ⟨b, off, sp⟩ := x
    have hsp : sp = none := by
      have := World.cell?_spot (hcell 0 (by omega))
      simpa [Addr.add] using this
    subst hsp
    rw [addr_add] at hcl
    refine ⟨b, off, rfl, World.block_lt_of_cell? W _ hcl, ?_⟩
    rw [hcl]
    have hw := hwz _ (List.getElem_mem hk')
    have hb : 0 ≤ zs[k] ∧ zs[k] ≤ 255 := by simpa [Lit.wf, IntKind.min, IntKind.max, IntKind.signed, IntKind.bits] using hw
    have hu' : byteV (UInt8.ofNat (zs[k]).toNat) = u := by
      have := hu
      simp [hk, List.getElem?_eq_getElem hk'] at this
      exact this
    rw [← hu', byteV]
    have : ((UInt8.ofNat (zs[k]).toNat).toNat : Int) = zs[k] := by rw [UInt8.toNat_ofNat']; omega
    rw [this]
    simp [List.getD, List.getElem?_eq_getElem hk']

end Go.Proofs.Ytemejcbilhcebaa
