/-
  JOINED TEXTS, each under its own namespace line: AnyFits, CodeIn.
-/
import Derived.Test.YtemejcbilhcebaaAnyNetP
import Derived.Test.YtemejcbilhcebaaMk10
import Derived.Test.YtemejcbilhcebaaCur
import Derived.ProofKit
import Derived.OpenShut
namespace Go.Proofs.Ytemejcbilhcebaa
open Go.RowKit
set_option linter.unusedVariables false
set_option linter.unusedSimpArgs false

theorem lineTot_any : ∀ (ls : List LineD), (∀ l ∈ ls, AnyLn l) → lineTot ls ≤ 36 * ls.length
  | [], _ => by simp [lineTot]
  | l :: ls, h => by
    have h1 := h l (by simp)
    have h2 := lineTot_any ls (fun x hx => h x (by simp [hx]))
    have h3 : lineSz l ≤ 36 := by have := h1.1; have := h1.2.1; have := h1.2.2.1; unfold lineSz; omega
    unfold lineTot at *
    simp only [List.map_cons, List.sum_cons, List.length_cons]
    omega
theorem any_fits {d : NetD} (h1 : d.stops.length ≤ 8 ∧ ∀ s ∈ d.stops, s.size ≤ 20) (h2 : d.lines.length ≤ 12) (h3 : ∀ l ∈ d.lines, AnyLn l) : NetFits d ∧ NetSmall d := by
  refine ⟨⟨fun s hs => by have := h1.2 s hs; unfold maxLen; omega, fun l hl => anyLn_fits (h3 l hl)⟩, by omega, by omega, fun l hl => ?_, ?_⟩
  · have h := h3 l hl
    have := h.1; have := h.2.1; have := h.2.2.1
    unfold LineSmall; omega
  · have := lineTot_any d.lines h3; omega
end Go.Proofs.Ytemejcbilhcebaa

namespace Go.Proofs.Ytemejcbilhcebaa
open Go.RowKit Go.ChangeShapes Go.WideShapes Go.ChangeAt
set_option linter.unusedVariables false

set_option maxRecDepth 100000 in
theorem codeAt_of {H : Type} {enc : TypeId × Value → H} {W : World} {base base' : Nat} {spare : Nat → Bool} {held : Bool} {v : Value} {d : DataW H} {p : List MemPlace}
    (hv : Value.okWide Try.prog W .any base 22 v) (h : DataW.Trod enc Try.prog W base' spare held 22 v d p) : CodeAt W v := by
  obtain ⟨a, len, cap, rfl⟩ := okWide_slice Try.underlying22 hv
  obtain ⟨fuel, hf⟩ := h
  rcases open_ints Try.underlying22 Try.underlying5 (by kernel_rfl) hf with ⟨hcs, _⟩ | ⟨x, l, c, zs, hcs, _, hl, hm, hz, _, hcell, hwz⟩
  · simp [Value.cells] at hcs
    obtain ⟨rfl, rfl, rfl⟩ := hcs
    exact ⟨[], none, 0, rfl, Nat.le_refl _, by decide, fun k u hu => by simp at hu⟩
  · simp [Value.cells] at hcs
    obtain ⟨rfl, rfl, rfl⟩ := hcs
    have hz' : len ≤ zs.length := by rw [hz]; split <;> omega
    refine ⟨(zs.take len).map fun z => UInt8.ofNat z.toNat, some x, cap, by simp [Nat.min_eq_left hz'], by simp; omega, hm, fun k u hu => ?_⟩
    have hk : k < len := by have := (List.getElem?_eq_some_iff.1 hu).1; simp at this; omega
    have hk' : k < zs.length := by omega
    have hcl := hcell k hk'
    obtain ⟨b, off, sp⟩ := x
    have hsp : sp = none := by
      have := World.cell?_spot (hcell 0 (by omega))
      simpa [Addr.add] using this
    subst hsp
    rw [addr_add] at hcl
    refine ⟨b, off, rfl, World.block_lt_of_cell? W _ hcl, ?_⟩
    rw [hcl]
    have hw := hwz _ (List.getElem_mem hk')
    have hb : 0 ≤ zs[k] ∧ zs[k] ≤ 255 := by simpa [Lit.wf, IntKind.min, IntKind.max, IntKind.signed, IntKind.bits] using hw
    have hu' : byteV (UInt8.ofNat (zs[k]).toNat) = u := by
      have := hu
      simp [hk, List.getElem?_eq_getElem hk'] at this
      exact this
    rw [← hu', byteV]
    have : ((UInt8.ofNat (zs[k]).toNat).toNat : Int) = zs[k] := by rw [UInt8.toNat_ofNat']; omega
    rw [this]
    simp [List.getD, List.getElem?_eq_getElem hk']

theorem vBig_any (a : Option Addr) (n c : Nat) (w : World) (hn : n ≤ maxLen) :
    (65536 < n → Calls Try.prog 6 #[.slice a n c] w fun e w' => e = .returned (.bool true) ∧ w = w') ∧
    (n ≤ 65536 → Calls Try.prog 6 #[.slice a n c] w fun e w' => e = .returned (.bool false) ∧ w = w') := by
  unfold maxLen at hn
  constructor
  · intro h
    have hd : decide ((65536 : Int) < (n : Int)) = true := by simp; omega
    go_enter Try.func6, Try.ntmps6
    go_wp2
    go_ret
    exact ⟨by simp, rfl⟩
  · intro h
    have hd : decide ((65536 : Int) < (n : Int)) = false := by simp; omega
    go_enter Try.func6, Try.ntmps6
    go_wp2
    go_ret
    exact ⟨by simp, rfl⟩

end Go.Proofs.Ytemejcbilhcebaa
