/-
  CONTRACTS of the laws' helpers on the code: vBig, vAt. And how a slice of bytes that came in is read.
-/
import Derived.Test.YtmjopejjbdmniaaDoorCur
import Derived.ProofKit
import Derived.OpenShut
namespace Go.Proofs.YtmjopejjbdmniaaDoor
open Go.RowKit Go.ChangeShapes Go.WideShapes Go.ChangeAt
set_option linter.unusedVariables false

theorem codeAt_of {H : Type} {enc : TypeId × Value → H} {W : World} {base base' : Nat} {spare : Nat → Bool} {held : Bool} {v : Value} {d : DataW H} {p : List MemPlace}
    (hv : Value.okWide Tryd.prog W .any base 22 v) (h : DataW.Trod enc Tryd.prog W base' spare held 22 v d p) : CodeAt W v := by
  obtain ⟨a, len, cap, rfl⟩ := okWide_slice Tryd.underlying22 hv
  obtain ⟨fuel, hf⟩ := h
  rcases open_ints Tryd.underlying22 Tryd.underlying5 (by kernel_rfl) hf with ⟨hcs, _⟩ | ⟨x, l, c, zs, hcs, _, hl, hm, hz, _, hcell, hwz⟩
  · simp [Value.cells] at hcs
    obtain ⟨rfl, rfl, rfl⟩ := hcs
    exact ⟨[], none, 0, rfl, Nat.le_refl _, by decide, fun k u hu => by simp at hu⟩
  · simp [Value.cells] at hcs
    obtain ⟨rfl, rfl, rfl⟩ := hcs
    have hz' : len ≤ zs.length := by rw [hz]; split <;> omega
    refine ⟨(zs.take len).map fun z => UInt8.ofNat z.toNat, some x, cap, by simp [Nat.min_eq_left hz'], by simp; omega, hm, fun k u hu => ?_⟩
    have hk : k < len := by have := (List.getElem?_eq_some_iff.1 hu).1; simp at this; omega
    have hk' : k < zs.length := by omega
    have hcl := hcell k hk'
    obtain ⟨b, off, sp⟩ := x
    have hsp : sp = none := by
      have := World.cell?_spot (hcell 0 (by omega))
      simpa [Addr.add] using this
    subst hsp
    rw [addr_add] at hcl
    refine ⟨b, off, rfl, World.block_lt_of_cell? W _ hcl, ?_⟩
    rw [hcl]
    have hw := hwz _ (List.getElem_mem hk')
    have hb : 0 ≤ zs[k] ∧ zs[k] ≤ 255 := by simpa [Lit.wf, IntKind.min, IntKind.max, IntKind.signed, IntKind.bits] using hw
    have hu' : byteV (UInt8.ofNat (zs[k]).toNat) = u := by
      have := hu
      simp [hk, List.getElem?_eq_getElem hk'] at this
      exact this
    rw [← hu', byteV]
    have : ((UInt8.ofNat (zs[k]).toNat).toNat : Int) = zs[k] := by rw [UInt8.toNat_ofNat']; omega
    rw [this]
    simp [List.getD, List.getElem?_eq_getElem hk']

theorem vBig_any (a : Option Addr) (n c : Nat) (w : World) (hn : n ≤ maxLen) :
    (65536 < n → Calls Tryd.prog 8 #[.slice a n c] w fun e w' => e = .returned (.bool true) ∧ w = w') ∧
    (n ≤ 65536 → Calls Tryd.prog 8 #[.slice a n c] w fun e w' => e = .returned (.bool false) ∧ w = w') := by
  unfold maxLen at hn
  constructor
  · intro h
    have hd : decide ((65536 : Int) < (n : Int)) = true := by simp; omega
    go_enter Tryd.func8, Tryd.ntmps8
    go_wp2
    go_ret
    exact ⟨by simp, rfl⟩
  · intro h
    have hd : decide ((65536 : Int) < (n : Int)) = false := by simp; omega
    go_enter Tryd.func8, Tryd.ntmps8
    go_wp2
    go_ret
    exact ⟨by simp, rfl⟩

theorem vAt_any (v : Value) (i : Int) (w : World) (h : CodeAt w v) (h0 : 0 ≤ i) (h1 : i ≤ 1000) (hl : ∀ a n c, v = .slice a n c → n ≤ 65536) :
    Calls Tryd.prog 19 #[v, .int .i64 i] w fun e w' => (∃ r : Int, e = .returned (.int .i64 r) ∧ 0 ≤ r ∧ r ≤ 255) ∧ w = w' := by
  obtain ⟨l, a, c, rfl, hc, hm, hcell⟩ := h
  have hl' := hl _ _ _ rfl
  rw [List.length_map] at *
  obtain ⟨k, rfl⟩ := Int.eq_ofNat_of_zero_le h0
  have HC := Lib.hid hcell
  clear hcell hl
  by_cases hlt : k < l.length
  · have hk1 : (k : Int) < (l.length : Int) := by omega
    obtain ⟨b2, off, rfl, _, hcx0⟩ := HC.out k _ (by rw [List.getElem?_map, List.getElem?_eq_getElem hlt]; rfl)
    obtain ⟨y, hcx, hy⟩ : ∃ y : Nat, w.cell? ⟨b2, off + k, none⟩ = some (.int .u8 (y : Int)) ∧ (y : Int) < 256 := ⟨_, hcx0, by have := l[k].toNat_lt; omega⟩
    clear hcx0
    go_enter Tryd.func19, Tryd.ntmps19
    go_wp2
    go_ret
    exact ⟨⟨_, rfl, by omega, by omega⟩, rfl⟩
  · have hk1 : (l.length : Int) ≤ (k : Int) := by omega
    have e0 := Int.emod_nonneg ((k : Int) * 7 + (l.length : Int)) (b := 256) (by omega)
    have e1 := Int.emod_lt_of_pos ((k : Int) * 7 + (l.length : Int)) (b := 256) (by omega)
    go_enter Tryd.func19, Tryd.ntmps19
    go_wp2
    go_ret
    exact ⟨⟨_, rfl, by omega, by omega⟩, rfl⟩
end Go.Proofs.YtmjopejjbdmniaaDoor
