/-
  A LINE of a network in memory: its cells and rows.
-/
import Derived.Test.YtfgkfdkdjegaiaaRunBase
namespace Go.Proofs.Ytfgkfdkdjegaiaa
open Go.RowKit
set_option linter.unusedVariables false

theorem net_line {w : World} {a : Option Addr} {c : Nat} {a' : Option Addr} {c' : Nat} {n : NetD} (h : NetAt w (.agg #[.slice a n.stops.length c, .slice a' n.lines.length c']) n) (k : Nat) (hk : k < n.lines.length) :
    ∃ b off s0 s1 r0 r1, a' = some ⟨b, off, none⟩ ∧ b < w.heap.size ∧ w.cell? ⟨b, off + k * 3, none⟩ = some (.string n.lines[k].name) ∧ w.cell? ⟨b, off + k * 3 + 1, none⟩ = some (.slice s0 n.lines[k].stops.length s1) ∧ w.cell? ⟨b, off + k * 3 + 2, none⟩ = some (.slice r0 n.lines[k].runs.length r1) ∧
      RowAt w (.slice s0 n.lines[k].stops.length s1) (ints n.lines[k].stops) ∧ RowAt w (.slice r0 n.lines[k].runs.length r1) (ints n.lines[k].runs) := by
  obtain ⟨s, l, he, h1, h2⟩ := h
  simp at he
  obtain ⟨rfl, rfl⟩ := he
  obtain ⟨a2, c2, he, _, _, HC⟩ := lines_open h2
  simp at he
  obtain ⟨rfl, rfl⟩ := he
  obtain ⟨b, off, ha, hlt, hla⟩ := HC.out k hk
  obtain ⟨sv, rv, c0, c1, c2', r1, r2⟩ := hla
  obtain ⟨s0, s1, rfl⟩ := IntS_open r1
  obtain ⟨q0, q1, rfl⟩ := IntS_open r2
  exact ⟨b, off, s0, s1, q0, q1, ha, hlt, c0, c1, c2', r1, r2⟩
end Go.Proofs.Ytfgkfdkdjegaiaa
