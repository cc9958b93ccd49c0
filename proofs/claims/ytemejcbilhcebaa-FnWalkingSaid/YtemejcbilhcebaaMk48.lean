/-
  JOINED TEXTS, each under its own namespace line: RWalks, AnyFits, RI, CodeIn.
-/
import Derived.Test.YtemejcbilhcebaaWalkFact
import Derived.BigQuiet
import Derived.Test.YtemejcbilhcebaaAnyNetP
import Derived.Test.YtemejcbilhcebaaMk08
import Derived.Test.YtemejcbilhcebaaMk04
import Derived.Test.YtemejcbilhcebaaCur
import Derived.ProofKit
import Derived.OpenShut
namespace Go.Proofs.Ytemejcbilhcebaa
open Go.RowKit
set_option linter.unusedVariables false
set_option linter.unusedSimpArgs false

set_option maxRecDepth 100000 in
set_option maxHeartbeats 2000000 in
theorem rWalks_any (v u : Value) (xs : List WlkD) (w : World) (hv : WalksAt w v xs) (hu : WalksAt w u xs) :
    Calls Try.prog 39 #[v, u] w fun e w' => e = .returned (.bool true) ∧ Below w.heap.size w w' := by
  obtain ⟨a, c, rfl, hl1, hl2, HX⟩ := walks_open hv
  obtain ⟨a2, c2, rfl, _, _, HY⟩ := walks_open hu
  have hl : xs.length ≤ 9223372036854775807 := by omega
  clear hv hu hl1 hl2
  go_enter Try.func39, Try.ntmps39
  go_wp2_with fail
  go_loopw [5] (fun i wr => ∃ k : Nat, k ≤ xs.length ∧ i = .int .i64 (k : Int) ∧ Hid (Below w.heap.size w wr)) (fun i _ => xs.length - (RowKit.intOf i).toNat)
  case atStart => exact ⟨0, Nat.zero_le _, rfl, Below.refl _ _⟩
  case round =>
    obtain ⟨k, hk, rfl, HB⟩ := hrel
    by_cases hlt : k < xs.length
    · obtain ⟨b, off, rfl, hbl, y0, y1, y2⟩ := HX.out k hlt
      have hx0 := bkeep HB.out y0
      have hx1 := bkeep HB.out y1
      have hx2 := bkeep HB.out y2
      obtain ⟨b2, off2, rfl, hbl2, z0, z1, z2⟩ := HY.out k hlt
      have hy0 := bkeep HB.out z0
      have hy1 := bkeep HB.out z1
      have hy2 := bkeep HB.out z2
      clear y0 y1 y2 z0 z1 z2
      generalize xs[k] = y at *
      obtain ⟨p, q, r⟩ := y
      simp only at *
      go_wp2_with (go_quiet (fail))
      go_roundw
      case rel => exact ⟨k + 1, by omega, by go_num, below_drewN HB.out _⟩
      case measure => simp [RowKit.intOf]; omega
    · have hkl : k = xs.length := by omega
      subst hkl
      go_wp2_with fail
      go_ret
      exact ⟨rfl, HB.out⟩

theorem next_match {n : Nat} {ws : List WlkD} (hv : WksOk n ws) {x : WlkD} (hx : x ∈ ws) {a b : Nat} (h : nextOf x a = some b) : (x.a = a ∧ x.b = b) ∨ (x.a = b ∧ x.b = a) := by
  obtain ⟨h1, h2, h3, -, -⟩ := hv.each x hx
  unfold nextOf at h
  split at h
  · rename_i e; injection h with h; subst h; exact .inl ⟨e.symm, by omega⟩
  · split at h
    · rename_i e e2; injection h with h; subst h; exact .inr ⟨by omega, e2.symm⟩
    · cases h
theorem match_next {n : Nat} {ws : List WlkD} (hv : WksOk n ws) {x : WlkD} (hx : x ∈ ws) {a b : Nat} (h : (x.a = a ∧ x.b = b) ∨ (x.a = b ∧ x.b = a)) : nextOf x a = some b := by
  obtain ⟨h1, h2, h3, -, -⟩ := hv.each x hx
  unfold nextOf
  rcases h with ⟨e1, e2⟩ | ⟨e1, e2⟩
  · rw [if_pos e1.symm]; congr 1; omega
  · rw [if_neg (by omega), if_pos e2.symm]; congr 1; omega

set_option maxRecDepth 100000 in
set_option maxHeartbeats 4000000 in
theorem rMinutes_any {n : Nat} (v : Value) (ws : List WlkD) (hv : WksOk n ws) (a b : Nat) (x : WlkD) (hx : x ∈ ws) (hn : nextOf x a = some b) (w : World) (hr : WalksAt w v ws) :
    Calls Try.prog 36 #[v, .int .i64 a, .int .i64 b] w fun e w' => e = .returned (.int .i64 x.m) ∧ w = w' := by
  obtain ⟨lb, lc, rfl, hl1, hl2, HX⟩ := walks_open hr
  obtain ⟨j, hj, hxe⟩ := List.getElem_of_mem hx
  have hab := (nextOf_lt hv hx hn).2.2
  have habI : ¬ (a : Int) = (b : Int) := by omega
  have HNo := Lib.hid (fun i (hi : i < ws.length) (hij : i < j) => (fun hm => by
    have h1 := next_inj hv (List.getElem_mem hi) hx (match_next hv (List.getElem_mem hi) hm) hn
    have h2 := next_asc hv i j hij hj (match_next hv (List.getElem_mem hi) hm) (by rw [hxe]; exact hn)
    exact Nat.lt_irrefl _ h2 : ¬ ((ws[i].a = a ∧ ws[i].b = b) ∨ (ws[i].a = b ∧ ws[i].b = a))))
  have HM := Lib.hid (next_match hv hx hn)
  have HXe := Lib.hid hxe
  have hl : ws.length ≤ 9223372036854775807 := by omega
  clear hr hl1 hl2 hxe hn hx
  go_enter Try.func36, Try.ntmps36
  go_wp2_with fail
  go_loopw [7] (fun i wr => ∃ k : Nat, k ≤ j ∧ i = .int .i64 (k : Int) ∧ wr = w) (fun i _ => ws.length - (RowKit.intOf i).toNat)
  case atStart => exact ⟨0, Nat.zero_le _, rfl, rfl⟩
  case round =>
    obtain ⟨k, hk, rfl, rfl⟩ := hrel
    have hlt : k < ws.length := by omega
    obtain ⟨g, off, rfl, hbl, y0, y1, y2⟩ := HX.out k hlt
    have hk1 : (k : Int) < (ws.length : Int) := by omega
    by_cases hkj : k < j
    · have hno := HNo.out k hlt hkj
      generalize ws[k] = y at *
      obtain ⟨p, q, r⟩ := y
      simp only at *
      by_cases h1 : p = (a : Int)
      · subst h1
        have h2 : (q == (b : Int)) = false := by simpa using fun h => hno (.inl ⟨rfl, h⟩)
        have h3 : ((a : Int) == (b : Int)) = false := by simpa using habI
        clear hno
        go_wp2_with fail
        go_roundw
        case rel => exact ⟨k + 1, by omega, by go_num, by first | rfl | trivial⟩
        case measure => simp [RowKit.intOf]; omega
      · have h1' : (p == (a : Int)) = false := by simpa using h1
        by_cases h3 : p = (b : Int)
        · subst h3
          have h4 : (q == (a : Int)) = false := by simpa using fun h => hno (.inr ⟨rfl, h⟩)
          clear hno h1
          go_wp2_with fail
          go_roundw
          case rel => exact ⟨k + 1, by omega, by go_num, by first | rfl | trivial⟩
          case measure => simp [RowKit.intOf]; omega
        · have h3' : (p == (b : Int)) = false := by simpa using h3
          clear hno h1 h3
          go_wp2_with fail
          go_roundw
          case rel => exact ⟨k + 1, by omega, by go_num, by first | rfl | trivial⟩
          case measure => simp [RowKit.intOf]; omega
    · obtain rfl : k = j := by omega
      have hm := HM.out
      have hxe := HXe.out
      rw [hxe] at y0 y1 y2
      clear HNo HM HXe hxe hkj
      obtain ⟨p, q, r⟩ := x
      simp only at *
      rcases hm with ⟨rfl, rfl⟩ | ⟨rfl, rfl⟩
      · go_wp2_with fail
        go_ret
        exact ⟨rfl, rfl⟩
      · have h3 : ((b : Int) == (a : Int)) = false := by simpa using fun h => habI h.symm
        go_wp2_with fail
        go_ret
        exact ⟨rfl, rfl⟩
end Go.Proofs.Ytemejcbilhcebaa

namespace Go.Proofs.Ytemejcbilhcebaa
open Go.RowKit
set_option linter.unusedVariables false
set_option linter.unusedSimpArgs false

theorem lineTot_any : ∀ (ls : List LineD), (∀ l ∈ ls, AnyLn l) → lineTot ls ≤ 36 * ls.length
  | [], _ => by simp [lineTot]
  | l :: ls, h => by
    have h1 := h l (by simp)
    have h2 := lineTot_any ls (fun x hx => h x (by simp [hx]))
    have h3 : lineSz l ≤ 36 := by have := h1.1; have := h1.2.1; have := h1.2.2.1; unfold lineSz; omega
    unfold lineTot at *
    simp only [List.map_cons, List.sum_cons, List.length_cons]
    omega
theorem any_fits {d : NetD} (h1 : d.stops.length ≤ 8 ∧ ∀ s ∈ d.stops, s.size ≤ 20) (h2 : d.lines.length ≤ 12) (h3 : ∀ l ∈ d.lines, AnyLn l) : NetFits d ∧ NetSmall d := by
  refine ⟨⟨fun s hs => by have := h1.2 s hs; unfold maxLen; omega, fun l hl => anyLn_fits (h3 l hl)⟩, by omega, by omega, fun l hl => ?_, ?_⟩
  · have h := h3 l hl
    have := h.1; have := h.2.1; have := h.2.2.1
    unfold LineSmall; omega
  · have := lineTot_any d.lines h3; omega
end Go.Proofs.Ytemejcbilhcebaa

namespace Go.Proofs.Ytemejcbilhcebaa
open Go.RowKit
set_option linter.unusedVariables false
set_option linter.unusedSimpArgs false

set_option maxRecDepth 100000 in
theorem rBig_any (a : Option Addr) (n c : Nat) (w : World) (hn : n ≤ maxLen) :
    (65536 < n → Calls Try.prog 17 #[.slice a n c] w fun e w' => e = .returned (.bool true) ∧ w = w') ∧
    (n ≤ 65536 → Calls Try.prog 17 #[.slice a n c] w fun e w' => e = .returned (.bool false) ∧ w = w') := by
  unfold maxLen at hn
  constructor
  · intro h
    have hd : decide ((65536 : Int) < (n : Int)) = true := by simp; omega
    go_enter Try.func17, Try.ntmps17
    go_wp2
    go_ret
    exact ⟨by simp, rfl⟩
  · intro h
    have hd : decide ((65536 : Int) < (n : Int)) = false := by simp; omega
    go_enter Try.func17, Try.ntmps17
    go_wp2
    go_ret
    exact ⟨by simp, rfl⟩

set_option maxRecDepth 100000 in
set_option maxHeartbeats 2000000 in
theorem rInts_any (v u : Value) (xs : List Int) (w : World) (hv : RowAt w v (ints xs)) (hu : RowAt w u (ints xs)) :
    Calls Try.prog 26 #[v, u] w fun e w' => e = .returned (.bool true) ∧ Below w.heap.size w w' := by
  obtain ⟨a, c, rfl, hl1, hl2, HX⟩ := ints_open hv
  obtain ⟨a2, c2, rfl, _, _, HY⟩ := ints_open hu
  have hl : xs.length ≤ 9223372036854775807 := by omega
  clear hv hu hl1 hl2
  go_enter Try.func26, Try.ntmps26
  go_wp2_with fail
  go_loopw [5] (fun i wr => ∃ k : Nat, k ≤ xs.length ∧ i = .int .i64 (k : Int) ∧ Hid (Below w.heap.size w wr)) (fun i _ => xs.length - (RowKit.intOf i).toNat)
  case atStart => exact ⟨0, Nat.zero_le _, rfl, Below.refl _ _⟩
  case round =>
    obtain ⟨k, hk, rfl, HB⟩ := hrel
    by_cases hlt : k < xs.length
    · obtain ⟨b, off, rfl, hbl, y0⟩ := HX.out k hlt
      have hx0 := bkeep HB.out y0
      obtain ⟨b2, off2, rfl, hbl2, z0⟩ := HY.out k hlt
      have hy0 := bkeep HB.out z0
      clear y0 z0
      generalize xs[k] = y at *
      go_wp2_with (go_quiet (fail))
      go_roundw
      case rel => exact ⟨k + 1, by omega, by go_num, below_drewN HB.out _⟩
      case measure => simp [RowKit.intOf]; omega
    · have hkl : k = xs.length := by omega
      subst hkl
      go_wp2_with fail
      go_ret
      exact ⟨rfl, HB.out⟩
end Go.Proofs.Ytemejcbilhcebaa

namespace Go.Proofs.Ytemejcbilhcebaa
open Go.RowKit Go.ChangeShapes Go.WideShapes Go.ChangeAt
set_option linter.unusedVariables false

set_option maxRecDepth 100000 in
theorem codeAt_of {H : Type} {enc : TypeId × Value → H} {W : World} {base base' : Nat} {spare : Nat → Bool} {held : Bool} {v : Value} {d : DataW H} {p : List MemPlace}
    (hv : Value.okWide Try.prog W .any base 22 v) (h : DataW.Trod enc Try.prog W base' spare held 22 v d p) : CodeAt W v := by
  obtain ⟨a, len, cap, rfl⟩ := okWide_slice Try.underlying22 hv
  obtain ⟨fuel, hf⟩ := h
  rcases open_ints Try.underlying22 Try.underlying5 (by kernel_rfl) hf with ⟨hcs, _⟩ | ⟨x, l, c, zs, hcs, _, hl, hm, hz, _, hcell, hwz⟩
  · simp [Value.cells] at hcs
    obtain ⟨rfl, rfl, rfl⟩ := hcs
    exact ⟨[], none, 0, rfl, Nat.le_refl _, by decide, fun k u hu => by simp at hu⟩
  · simp [Value.cells] at hcs
    obtain ⟨rfl, rfl, rfl⟩ := hcs
    have hz' : len ≤ zs.length := by rw [hz]; split <;> omega
    refine ⟨(zs.take len).map fun z => UInt8.ofNat z.toNat, some x, cap, by simp [Nat.min_eq_left hz'], by simp; omega, hm, fun k u hu => ?_⟩
    have hk : k < len := by have := (List.getElem?_eq_some_iff.1 hu).1; simp at this; omega
    have hk' : k < zs.length := by omega
    have hcl := hcell k hk'
    obtain ⟨b, off, sp⟩ := x
    have hsp : sp = none := by
      have := World.cell?_spot (hcell 0 (by omega))
      simpa [Addr.add] using this
    subst hsp
    rw [addr_add] at hcl
    refine ⟨b, off, rfl, World.block_lt_of_cell? W _ hcl, ?_⟩
    rw [hcl]
    have hw := hwz _ (List.getElem_mem hk')
    have hb : 0 ≤ zs[k] ∧ zs[k] ≤ 255 := by simpa [Lit.wf, IntKind.min, IntKind.max, IntKind.signed, IntKind.bits] using hw
    have hu' : byteV (UInt8.ofNat (zs[k]).toNat) = u := by
      have := hu
      simp [hk, List.getElem?_eq_getElem hk'] at this
      exact this
    rw [← hu', byteV]
    have : ((UInt8.ofNat (zs[k]).toNat).toNat : Int) = zs[k] := by rw [UInt8.toNat_ofNat']; omega
    rw [this]
    simp [List.getD, List.getElem?_eq_getElem hk']

end Go.Proofs.Ytemejcbilhcebaa
