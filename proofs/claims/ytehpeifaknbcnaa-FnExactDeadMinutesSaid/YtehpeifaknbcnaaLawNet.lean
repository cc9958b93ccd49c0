import Derived.Test.YtehpeifaknbcnaaToNet
import Derived.BigQuiet
import Derived.Deep.RegionHeld3
import Derived.Deep.QuietTactic
namespace Go.Proofs.Ytehpeifaknbcnaa
open Go.RowKit
set_option linter.unusedVariables false

def LineSmall (l : LineD) : Prop := l.name.size ≤ 1048576 ∧ l.stops.length ≤ 1048576 ∧ l.runs.length ≤ 1048576
def lineSz (l : LineD) : Nat := l.name.size + l.stops.length + l.runs.length
def lineTot (ls : List LineD) : Nat := (ls.map lineSz).sum
theorem lineTot_take (ls : List LineD) (k : Nat) (h : k < ls.length) : lineTot (ls.take (k + 1)) = lineTot (ls.take k) + lineSz (ls[k]'h) := by
  rw [List.take_succ_eq_append_getElem h]; simp only [lineTot, List.map_append, List.sum_append, List.map_cons, List.map_nil, List.sum_cons, List.sum_nil]; omega
def NetSmall (n : NetD) : Prop := n.stops.length ≤ 1048576 ∧ n.lines.length ≤ 1048576 ∧ (∀ l ∈ n.lines, LineSmall l) ∧ n.stops.length + n.lines.length + lineTot n.lines ≤ 1048576

theorem szLine_any (v : Value) (l : LineD) (left : Int) (w : World) (hr : LineV w v l) (hf : LineFits l) (h0 : 0 ≤ left) (h1 : left ≤ 1048576) :
    Calls Try.prog 90 #[v, .int .i64 left] w fun e w' => (∃ r : Int, e = .returned (.int .i64 r) ∧ (r = -1 ∨ (0 ≤ r ∧ (lineSz l : Int) + r = left ∧ LineSmall l))) ∧ Below w.heap.size w w' := by
  obtain ⟨sv, rv, rfl, hs, hrr⟩ := hr
  have hnm := hf.1
  unfold maxLen at hnm
  have HS := Lib.hid (fun W (hW : Below w.heap.size w W) r (g0 : 0 ≤ r) (g1 : r ≤ 1048576) => szIntS_any sv l.stops r W (hs.below rfl hW) g0 g1)
  have HR := Lib.hid (fun W (hW : Below w.heap.size w W) r (g0 : 0 ≤ r) (g1 : r ≤ 1048576) => szIntS_any rv l.runs r W (hrr.below rfl hW) g0 g1)
  obtain ⟨a, c, rfl, hc, hm, _⟩ := ints_open hs
  obtain ⟨a', c', rfl, hc', hm', _⟩ := ints_open hrr
  clear hs hrr hf
  by_cases hneg : left - (l.name.size : Int) < 0
  · go_enter Try.func90, Try.ntmps90
    go_wp2_with fail
    go_ret
    exact ⟨⟨-1, rfl, .inl rfl⟩, (Below.refl _ _).alloc (Nat.le_refl _) _⟩
  · go_enter Try.func90, Try.ntmps90
    go_wp2_with fail
    go_at_call 65
    refine (HS.out _ ((Below.refl _ _).alloc (Nat.le_refl _) _) _ (by omega) (by omega)).mono ?_
    rintro e w1 ⟨⟨r1, rfl, hr1⟩, rfl⟩
    rcases hr1 with rfl | ⟨hp1, he1⟩
    · go_wp2_with fail
      go_ret
      exact ⟨⟨-1, rfl, .inl rfl⟩, (Below.refl _ _).alloc (Nat.le_refl _) _⟩
    · have HE1 := Lib.hid he1
      have hb1 : r1 ≤ left := by omega
      clear he1
      go_wp2_with fail
      go_at_call 65
      refine (HR.out _ ((Below.refl _ _).alloc (Nat.le_refl _) _) _ (by omega) (by omega)).mono ?_
      rintro e w1 ⟨⟨r2, rfl, hr2⟩, rfl⟩
      rcases hr2 with rfl | ⟨hp2, he2⟩
      · go_wp2_with fail
        go_ret
        exact ⟨⟨-1, rfl, .inl rfl⟩, (Below.refl _ _).alloc (Nat.le_refl _) _⟩
      · have HE2 := Lib.hid he2
        clear he2
        go_wp2_with fail
        go_ret
        have e1 := HE1.out
        have e2 := HE2.out
        exact ⟨⟨r2, rfl, .inr ⟨hp2, by unfold lineSz; omega, by omega, by omega, by omega⟩⟩, (Below.refl _ _).alloc (Nat.le_refl _) _⟩

set_option maxHeartbeats 1000000 in
theorem szLineS_any (v : Value) (ls : List LineD) (left : Int) (w : World) (hr : LinesAt w v ls) (hf : ∀ l ∈ ls, LineFits l) (h0 : 0 ≤ left) (h1 : left ≤ 1048576) :
    Calls Try.prog 47 #[v, .int .i64 left] w fun e w' => (∃ r : Int, e = .returned (.int .i64 r) ∧ (r = -1 ∨ (0 ≤ r ∧ (ls.length : Int) + lineTot ls + r = left ∧ ∀ l ∈ ls, LineSmall l))) ∧ Below w.heap.size w w' := by
  obtain ⟨a, c, rfl, hc, hm, HC⟩ := lines_open hr
  have HF := Lib.hid hf
  clear hr hf
  by_cases hneg : left - (ls.length : Int) < 0
  · go_enter Try.func47, Try.ntmps47
    go_wp2
    go_ret
    exact ⟨⟨-1, rfl, .inl rfl⟩, Below.refl _ _⟩
  · go_enter Try.func47, Try.ntmps47
    go_wp2_with fail
    go_loopw [1, 5] (fun l i wr => ∃ k : Nat, k ≤ ls.length ∧ i = .int .i64 k ∧ (∃ r : Int, l = .int .i64 r ∧ 0 ≤ r ∧ r ≤ 1048576 ∧ Hid ((ls.length : Int) + lineTot (ls.take k) + r = left)) ∧ Hid (∀ x ∈ ls.take k, LineSmall x) ∧ Below w.heap.size w wr)
      (fun _ i _ => ls.length - (RowKit.intOf i).toNat)
    case atStart => exact ⟨0, Nat.zero_le _, rfl, ⟨_, rfl, by omega, by omega, by show _ = _; simp [lineTot]; omega⟩, by intro x hx; simp at hx, Below.refl _ _⟩
    case round =>
      obtain ⟨k, hk, rfl, ⟨r, rfl, hr0, hr1, HR⟩, HS, hbel⟩ := hrel
      by_cases hlt : k < ls.length
      · obtain ⟨b, off, rfl, hbl, hla⟩ := HC.out k hlt
        obtain ⟨sv, rv, y0, y1, y2, hlv⟩ := hla.toV
        have hx0 := hbel.cell (p := ⟨b, off + k * 3, none⟩) hbl
        rw [y0] at hx0
        have hx1 := hbel.cell (p := ⟨b, off + k * 3 + 1, none⟩) hbl
        rw [y1] at hx1
        have hx2 := hbel.cell (p := ⟨b, off + k * 3 + 2, none⟩) hbl
        rw [y2] at hx2
        have HSz := Lib.hid (szLine_any _ ls[k] r wr (hlv.below rfl hbel) (HF.out _ (List.getElem_mem hlt)) hr0 hr1)
        have HBel := Lib.hid hbel
        clear hla hlv y0 y1 y2 hbel
        go_wp2_with fail
        go_at_call 90
        refine HSz.out.mono ?_
        rintro e w1 ⟨⟨r2, rfl, hr2⟩, hb1⟩
        have HB1 : Hid (Below w.heap.size w w1) := HBel.out.trans (hb1.mono HBel.out.size)
        clear hb1
        rcases hr2 with rfl | ⟨hp2, hle0, hsm⟩
        · go_wp2_with fail
          go_ret
          exact ⟨⟨-1, rfl, .inl rfl⟩, HB1.out⟩
        · have HS2 : Hid (∀ x ∈ ls.take (k + 1), LineSmall x) := by
            intro x hx
            rw [List.take_succ_eq_append_getElem hlt] at hx
            rcases List.mem_append.1 hx with h | h
            · exact HS.out x h
            · have : x = ls[k] := by simpa using h
              rw [this]; exact hsm
          have HR2 : Hid ((ls.length : Int) + lineTot (ls.take (k + 1)) + r2 = left) := by have h1 := HR.out; have h2 := lineTot_take ls k hlt; show _ = _; omega
          have hle : r2 ≤ r := by omega
          clear hsm hle0
          go_wp2_with fail
          go_roundw
          case rel => exact ⟨k + 1, by omega, by go_num, ⟨_, rfl, hp2, by omega, HR2⟩, HS2, HB1.out⟩
          case measure => simp [RowKit.intOf]; omega
      · have HS2 : Hid (∀ x ∈ ls, LineSmall x) := by have := HS.out; rw [List.take_of_length_le (by omega)] at this; exact this
        go_wp2_with fail
        go_ret
        exact ⟨⟨r, rfl, .inr ⟨hr0, by have h1 := HR.out; rw [List.take_of_length_le (by omega)] at h1; exact h1, HS2.out⟩⟩, hbel⟩

end Go.Proofs.Ytehpeifaknbcnaa
