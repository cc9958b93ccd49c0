import Derived.Test.YtemejcbilhcebaaMk03
namespace Go.Proofs.Ytemejcbilhcebaa
open Go.RowKit
set_option linter.unusedVariables false

set_option maxHeartbeats 1000000 in
theorem of_any (b n : Nat) (v vl : Value) (xs : List ByteArray) (w : World) (hc : CurAt w b v n) (hv : CodeOff w b v) (hn : n ≤ 900000) (hl : ListOff w b vl (xs.map .string)) (h1 : 1 ≤ xs.length) (h2 : xs.length ≤ 1000000) :
    Calls Try.prog 43 #[.pointer (some ⟨b, 0, none⟩), vl] w fun e w' => (∃ x : ByteArray, x ∈ xs ∧ e = .returned (.string x)) ∧ CurPost w b (n + 2) v w' := by
  have HL := Lib.hid hl
  obtain ⟨⟨a, c, rfl, hl1, hl2, _⟩, _⟩ := hl
  rw [List.length_map] at *
  have H1 := Lib.hid (pick_any b n v (xs.length : Int) w hc hv hn (by omega))
  clear hc hv
  go_enter Try.func43, Try.ntmps43
  go_wp2_with fail
  go_at_call 42
  refine H1.out.mono ?_
  rintro e w1 ⟨⟨r, rfl, r0, r1⟩, hp⟩
  have hr := r1 (by omega)
  obtain ⟨k, rfl⟩ := Int.eq_ofNat_of_zero_le r0
  have hk : k < xs.length := by omega
  obtain ⟨⟨a', c', hv', _, _, hcell⟩, _⟩ := listOff_grown HL.out hp.2.2
  obtain ⟨b2, off, ha, _, hcx⟩ := hcell k (.string (xs[k]'hk)) (by simp [List.getElem?_eq_getElem hk])
  obtain rfl : a = some ⟨b2, off, none⟩ := by
    have e : a = a' := by injection hv'
    rw [e, ha]
  have HM := Lib.hid (List.getElem_mem hk)
  clear hcell hv' ha r1 HL
  generalize xs[k] = x at *
  have HP := Lib.hid hp
  clear hp
  go_wp2_with fail
  go_ret
  exact ⟨⟨x, HM.out, rfl⟩, HP.out⟩

end Go.Proofs.Ytemejcbilhcebaa
