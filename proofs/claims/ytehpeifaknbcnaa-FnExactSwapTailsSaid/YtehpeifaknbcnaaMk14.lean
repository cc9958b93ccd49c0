/-
  JOINED TEXTS, each under its own namespace line: LawNet, EqNet, In.
-/
import Derived.Test.YtehpeifaknbcnaaToNet
import Derived.BigQuiet
import Derived.Deep.RegionHeld3
import Derived.Deep.QuietTactic
import Derived.Test.YtehpeifaknbcnaaRows
import Derived.WalkLawsBesides
import Derived.LoopTactic
import Derived.Lib.Hide
namespace Go.Proofs.Ytehpeifaknbcnaa
open Go.RowKit
set_option linter.unusedVariables false

def LineSmall (l : LineD) : Prop := l.name.size ≤ 1048576 ∧ l.stops.length ≤ 1048576 ∧ l.runs.length ≤ 1048576
def lineSz (l : LineD) : Nat := l.name.size + l.stops.length + l.runs.length
def lineTot (ls : List LineD) : Nat := (ls.map lineSz).sum
theorem lineTot_take (ls : List LineD) (k : Nat) (h : k < ls.length) : lineTot (ls.take (k + 1)) = lineTot (ls.take k) + lineSz (ls[k]'h) := by
  rw [List.take_succ_eq_append_getElem h]; simp only [lineTot, List.map_append, List.sum_append, List.map_cons, List.map_nil, List.sum_cons, List.sum_nil]; omega
def NetSmall (n : NetD) : Prop := n.stops.length ≤ 1048576 ∧ n.lines.length ≤ 1048576 ∧ (∀ l ∈ n.lines, LineSmall l) ∧ n.stops.length + n.lines.length + lineTot n.lines ≤ 1048576

theorem szLine_any (v : Value) (l : LineD) (left : Int) (w : World) (hr : LineV w v l) (hf : LineFits l) (h0 : 0 ≤ left) (h1 : left ≤ 1048576) :
    Calls Try.prog 90 #[v, .int .i64 left] w fun e w' => (∃ r : Int, e = .returned (.int .i64 r) ∧ (r = -1 ∨ (0 ≤ r ∧ (lineSz l : Int) + r = left ∧ LineSmall l))) ∧ Below w.heap.size w w' := by
  obtain ⟨sv, rv, rfl, hs, hrr⟩ := hr
  have hnm := hf.1
  unfold maxLen at hnm
  have HS := Lib.hid (fun W (hW : Below w.heap.size w W) r (g0 : 0 ≤ r) (g1 : r ≤ 1048576) => szIntS_any sv l.stops r W (hs.below rfl hW) g0 g1)
  have HR := Lib.hid (fun W (hW : Below w.heap.size w W) r (g0 : 0 ≤ r) (g1 : r ≤ 1048576) => szIntS_any rv l.runs r W (hrr.below rfl hW) g0 g1)
  obtain ⟨a, c, rfl, hc, hm, _⟩ := ints_open hs
  obtain ⟨a', c', rfl, hc', hm', _⟩ := ints_open hrr
  clear hs hrr hf
  by_cases hneg : left - (l.name.size : Int) < 0
  · go_enter Try.func90, Try.ntmps90
    go_wp2_with fail
    go_ret
    exact ⟨⟨-1, rfl, .inl rfl⟩, (Below.refl _ _).alloc (Nat.le_refl _) _⟩
  · go_enter Try.func90, Try.ntmps90
    go_wp2_with fail
    go_at_call 65
    refine (HS.out _ ((Below.refl _ _).alloc (Nat.le_refl _) _) _ (by omega) (by omega)).mono ?_
    rintro e w1 ⟨⟨r1, rfl, hr1⟩, rfl⟩
    rcases hr1 with rfl | ⟨hp1, he1⟩
    · go_wp2_with fail
      go_ret
      exact ⟨⟨-1, rfl, .inl rfl⟩, (Below.refl _ _).alloc (Nat.le_refl _) _⟩
    · have HE1 := Lib.hid he1
      have hb1 : r1 ≤ left := by omega
      clear he1
      go_wp2_with fail
      go_at_call 65
      refine (HR.out _ ((Below.refl _ _).alloc (Nat.le_refl _) _) _ (by omega) (by omega)).mono ?_
      rintro e w1 ⟨⟨r2, rfl, hr2⟩, rfl⟩
      rcases hr2 with rfl | ⟨hp2, he2⟩
      · go_wp2_with fail
        go_ret
        exact ⟨⟨-1, rfl, .inl rfl⟩, (Below.refl _ _).alloc (Nat.le_refl _) _⟩
      · have HE2 := Lib.hid he2
        clear he2
        go_wp2_with fail
        go_ret
        have e1 := HE1.out
        have e2 := HE2.out
        exact ⟨⟨r2, rfl, .inr ⟨hp2, by unfold lineSz; omega, by omega, by omega, by omega⟩⟩, (Below.refl _ _).alloc (Nat.le_refl _) _⟩

set_option maxHeartbeats 1000000 in
theorem szLineS_any (v : Value) (ls : List LineD) (left : Int) (w : World) (hr : LinesAt w v ls) (hf : ∀ l ∈ ls, LineFits l) (h0 : 0 ≤ left) (h1 : left ≤ 1048576) :
    Calls Try.prog 47 #[v, .int .i64 left] w fun e w' => (∃ r : Int, e = .returned (.int .i64 r) ∧ (r = -1 ∨ (0 ≤ r ∧ (ls.length : Int) + lineTot ls + r = left ∧ ∀ l ∈ ls, LineSmall l))) ∧ Below w.heap.size w w' := by
  obtain ⟨a, c, rfl, hc, hm, HC⟩ := lines_open hr
  have HF := Lib.hid hf
  clear hr hf
  by_cases hneg : left - (ls.length : Int) < 0
  · go_enter Try.func47, Try.ntmps47
    go_wp2
    go_ret
    exact ⟨⟨-1, rfl, .inl rfl⟩, Below.refl _ _⟩
  · go_enter Try.func47, Try.ntmps47
    go_wp2_with fail
    go_loopw [1, 5] (fun l i wr => ∃ k : Nat, k ≤ ls.length ∧ i = .int .i64 k ∧ (∃ r : Int, l = .int .i64 r ∧ 0 ≤ r ∧ r ≤ 1048576 ∧ Hid ((ls.length : Int) + lineTot (ls.take k) + r = left)) ∧ Hid (∀ x ∈ ls.take k, LineSmall x) ∧ Below w.heap.size w wr)
      (fun _ i _ => ls.length - (RowKit.intOf i).toNat)
    case atStart => exact ⟨0, Nat.zero_le _, rfl, ⟨_, rfl, by omega, by omega, by show _ = _; simp [lineTot]; omega⟩, by intro x hx; simp at hx, Below.refl _ _⟩
    case round =>
      obtain ⟨k, hk, rfl, ⟨r, rfl, hr0, hr1, HR⟩, HS, hbel⟩ := hrel
      by_cases hlt : k < ls.length
      · obtain ⟨b, off, rfl, hbl, hla⟩ := HC.out k hlt
        obtain ⟨sv, rv, y0, y1, y2, hlv⟩ := hla.toV
        have hx0 := hbel.cell (p := ⟨b, off + k * 3, none⟩) hbl
        rw [y0] at hx0
        have hx1 := hbel.cell (p := ⟨b, off + k * 3 + 1, none⟩) hbl
        rw [y1] at hx1
        have hx2 := hbel.cell (p := ⟨b, off + k * 3 + 2, none⟩) hbl
        rw [y2] at hx2
        have HSz := Lib.hid (szLine_any _ ls[k] r wr (hlv.below rfl hbel) (HF.out _ (List.getElem_mem hlt)) hr0 hr1)
        have HBel := Lib.hid hbel
        clear hla hlv y0 y1 y2 hbel
        go_wp2_with fail
        go_at_call 90
        refine HSz.out.mono ?_
        rintro e w1 ⟨⟨r2, rfl, hr2⟩, hb1⟩
        have HB1 : Hid (Below w.heap.size w w1) := HBel.out.trans (hb1.mono HBel.out.size)
        clear hb1
        rcases hr2 with rfl | ⟨hp2, hle0, hsm⟩
        · go_wp2_with fail
          go_ret
          exact ⟨⟨-1, rfl, .inl rfl⟩, HB1.out⟩
        · have HS2 : Hid (∀ x ∈ ls.take (k + 1), LineSmall x) := by
            intro x hx
            rw [List.take_succ_eq_append_getElem hlt] at hx
            rcases List.mem_append.1 hx with h | h
            · exact HS.out x h
            · have : x = ls[k] := by simpa using h
              rw [this]; exact hsm
          have HR2 : Hid ((ls.length : Int) + lineTot (ls.take (k + 1)) + r2 = left) := by have h1 := HR.out; have h2 := lineTot_take ls k hlt; show _ = _; omega
          have hle : r2 ≤ r := by omega
          clear hsm hle0
          go_wp2_with fail
          go_roundw
          case rel => exact ⟨k + 1, by omega, by go_num, ⟨_, rfl, hp2, by omega, HR2⟩, HS2, HB1.out⟩
          case measure => simp [RowKit.intOf]; omega
      · have HS2 : Hid (∀ x ∈ ls, LineSmall x) := by have := HS.out; rw [List.take_of_length_le (by omega)] at this; exact this
        go_wp2_with fail
        go_ret
        exact ⟨⟨r, rfl, .inr ⟨hr0, by have h1 := HR.out; rw [List.take_of_length_le (by omega)] at h1; exact h1, HS2.out⟩⟩, hbel⟩

end Go.Proofs.Ytehpeifaknbcnaa

namespace Go.Proofs.Ytehpeifaknbcnaa
open Go.RowKit
set_option linter.unusedVariables false

theorem eqLine_same (v v' : Value) (l : LineD) (w : World) (hr : LineV w v l) (hr' : LineV w v' l) :
    Calls Try.prog 96 #[v, v'] w fun e w' => e = .returned (.bool true) ∧ Below w.heap.size w w' := by
  obtain ⟨sv, rv, rfl, hs, hrr⟩ := hr
  obtain ⟨sv', rv', rfl, hs', hrr'⟩ := hr'
  have HS := Lib.hid (fun W (hW : Below w.heap.size w W) => eqIntS_same sv sv' l.stops W (hs.below rfl hW) (hs'.below rfl hW))
  have HR := Lib.hid (fun W (hW : Below w.heap.size w W) => eqIntS_same rv rv' l.runs W (hrr.below rfl hW) (hrr'.below rfl hW))
  obtain ⟨a, c, rfl, _⟩ := ints_open hs
  obtain ⟨a', c', rfl, _⟩ := ints_open hrr
  obtain ⟨a2, c2, rfl, _⟩ := ints_open hs'
  obtain ⟨a2', c2', rfl, _⟩ := ints_open hrr'
  clear hs hrr hs' hrr'
  have hnn : (l.name.toList != l.name.toList) = false := by simp
  generalize l.name = nm at *
  go_enter Try.func96, Try.ntmps96
  go_wp2_with fail
  go_at_call 71
  refine (HS.out _ (((Below.refl _ _).alloc (Nat.le_refl _) _).alloc (by simp) _)).mono ?_
  rintro e w1 ⟨rfl, hb1⟩
  have HB1 : Hid (Below w.heap.size w w1) := (((Below.refl _ _).alloc (Nat.le_refl _) _).alloc (by simp) _).trans (hb1.mono (by simp; omega))
  have p2 : w1.cell? ⟨w.heap.size, 2, none⟩ = some (.slice a' l.runs.length c') := bkeep hb1 (by go_simp)
  have q2 : w1.cell? ⟨w.heap.size + 1, 2, none⟩ = some (.slice a2' l.runs.length c2') := bkeep hb1 (by go_simp)
  clear hb1
  go_wp2_with fail
  go_at_call 71
  refine (HR.out _ HB1.out).mono ?_
  rintro e w2 ⟨rfl, hb2⟩
  have HB2 : Hid (Below w.heap.size w w2) := HB1.out.trans (hb2.mono HB1.out.size)
  clear hb2
  go_wp2_with fail
  go_ret
  exact ⟨rfl, HB2.out⟩

theorem keepE {W w w' : World} {p0 p1 p2 p3 p4 p5 : Addr} {x0 x1 x2 x3 x4 x5 : Value} (hb : Below w.heap.size w w')
    (h : w.cell? p0 = some x0 ∧ w.cell? p1 = some x1 ∧ w.cell? p2 = some x2 ∧ w.cell? p3 = some x3 ∧ w.cell? p4 = some x4 ∧ w.cell? p5 = some x5 ∧ Below W.heap.size W w) :
    w'.cell? p0 = some x0 ∧ w'.cell? p1 = some x1 ∧ w'.cell? p2 = some x2 ∧ w'.cell? p3 = some x3 ∧ w'.cell? p4 = some x4 ∧ w'.cell? p5 = some x5 ∧ Below W.heap.size W w' := by
  obtain ⟨h0, h1, h2, h3, h4, h5, h6⟩ := h
  exact ⟨bkeep hb h0, bkeep hb h1, bkeep hb h2, bkeep hb h3, bkeep hb h4, bkeep hb h5, h6.trans (hb.mono h6.size)⟩

set_option maxHeartbeats 1000000 in
theorem eqLineS_same (v v' : Value) (ls : List LineD) (w : World) (hr : LinesAt w v ls) (hr' : LinesAt w v' ls) :
    Calls Try.prog 55 #[v, v'] w fun e w' => e = .returned (.bool true) ∧ Below w.heap.size w w' := by
  obtain ⟨a, c, rfl, hc, hm, HC⟩ := lines_open hr
  obtain ⟨a', c', rfl, hc', hm', HC'⟩ := lines_open hr'
  clear hr hr'
  go_enter Try.func55, Try.ntmps55
  go_wp2_with fail
  go_loopw [5] (fun i wr => ∃ k : Nat, k ≤ ls.length ∧ i = .int .i64 k ∧ Below w.heap.size w wr)
    (fun i _ => ls.length - (RowKit.intOf i).toNat)
  case atStart => exact ⟨0, Nat.zero_le _, rfl, Below.refl _ _⟩
  case round =>
    obtain ⟨k, hk, rfl, hbel⟩ := hrel
    by_cases hlt : k < ls.length
    · obtain ⟨b, off, rfl, hbl, hla⟩ := HC.out k hlt
      obtain ⟨b', off', rfl, hbl', hla'⟩ := HC'.out k hlt
      obtain ⟨sv, rv, y0, y1, y2, hlv⟩ := hla.toV
      obtain ⟨sv', rv', z0, z1, z2, hlv'⟩ := hla'.toV
      have hx0 := hbel.cell (p := ⟨b, off + k * 3, none⟩) hbl
      rw [y0] at hx0
      have hx1 := hbel.cell (p := ⟨b, off + k * 3 + 1, none⟩) hbl
      rw [y1] at hx1
      have hx2 := hbel.cell (p := ⟨b, off + k * 3 + 2, none⟩) hbl
      rw [y2] at hx2
      have hx0' := hbel.cell (p := ⟨b', off' + k * 3, none⟩) hbl'
      rw [z0] at hx0'
      have hx1' := hbel.cell (p := ⟨b', off' + k * 3 + 1, none⟩) hbl'
      rw [z1] at hx1'
      have hx2' := hbel.cell (p := ⟨b', off' + k * 3 + 2, none⟩) hbl'
      rw [z2] at hx2'
      have HEq := Lib.hid (fun W (hW : Below w.heap.size w W) => eqLine_same _ _ ls[k] W (hlv.below rfl hW) (hlv'.below rfl hW))
      have hk1 : (k : Int) < (ls.length : Int) := by omega
      clear hla hla' hlv hlv' y0 y1 y2 z0 z1 z2
      generalize ls[k].name = nm at *
      go_wp2_with fail
      go_region_held3 (fun w' => w'.cell? ⟨b, off + k * 3, none⟩ = some (.string nm) ∧ w'.cell? ⟨b, off + k * 3 + 1, none⟩ = some sv ∧ w'.cell? ⟨b, off + k * 3 + 2, none⟩ = some rv ∧
          w'.cell? ⟨b', off' + k * 3, none⟩ = some (.string nm) ∧ w'.cell? ⟨b', off' + k * 3 + 1, none⟩ = some sv' ∧ w'.cell? ⟨b', off' + k * 3 + 2, none⟩ = some rv' ∧ Below w.heap.size w w')
        (first | (exact ⟨hx0, hx1, hx2, hx0', hx1', hx2', hbel.drew⟩) | (exact keepE hb (by assumption)))
        ((go_at_call 96; refine (HEq.out _ hbel.drew).mono ?_; rintro e w' ⟨rfl, hb⟩))
      obtain ⟨_, _, _, _, _, _, qb⟩ := (by assumption : _ ∧ _)
      clear hx0 hx1 hx2 hx0' hx1' hx2' hbel
      go_wp2_with fail
      go_roundw
      case rel => exact ⟨k + 1, by omega, by go_num, qb⟩
      case measure => simp [RowKit.intOf]; omega
    · go_wp2_with fail
      go_ret
      exact ⟨rfl, hbel⟩

theorem eqNetwork_same (v v' : Value) (n : NetD) (w : World) (hr : NetAt w v n) (hr' : NetAt w v' n) (hn : n.stops.length ≤ 1048576) :
    Calls Try.prog 17 #[v, v'] w fun e w' => e = .returned (.bool true) ∧ Below w.heap.size w w' := by
  obtain ⟨sv, lv, rfl, hs, hrr⟩ := hr
  obtain ⟨sv', lv', rfl, hs', hrr'⟩ := hr'
  have HS := Lib.hid (fun W (hW : Below w.heap.size w W) => eqStringS_same sv sv' n.stops W (hs.below rfl hW) (hs'.below rfl hW) hn)
  have HR := Lib.hid (fun W (hW : Below w.heap.size w W) => eqLineS_same lv lv' n.lines W (hrr.below rfl hW) (hrr'.below rfl hW))
  obtain ⟨a, c, rfl, _⟩ := strs_open hs
  obtain ⟨a', c', rfl, _⟩ := lines_open hrr
  obtain ⟨a2, c2, rfl, _⟩ := strs_open hs'
  obtain ⟨a2', c2', rfl, _⟩ := lines_open hrr'
  clear hs hrr hs' hrr'
  go_enter Try.func17, Try.ntmps17
  go_wp2_with fail
  go_at_call 54
  refine (HS.out _ (((Below.refl _ _).alloc (Nat.le_refl _) _).alloc (by simp) _)).mono ?_
  rintro e w1 ⟨rfl, m, rfl⟩
  go_wp2_with fail
  go_at_call 55
  refine (HR.out _ (Below.trans (((Below.refl _ _).alloc (Nat.le_refl _) _).alloc (by simp) _) ((Dr.below ⟨m, rfl⟩).mono (by simp; omega)))).mono ?_
  rintro e w2 ⟨rfl, hb2⟩
  have HB2 : Hid (Below w.heap.size w w2) := (Below.trans (((Below.refl _ _).alloc (Nat.le_refl _) _).alloc (by simp) _) ((Dr.below ⟨m, rfl⟩).mono (by simp; omega))).trans (hb2.mono (by simp; omega))
  clear hb2
  go_wp2_with fail
  go_ret
  exact ⟨rfl, HB2.out⟩
end Go.Proofs.Ytehpeifaknbcnaa

namespace Go.Proofs.Ytehpeifaknbcnaa
open Go.RowKit
set_option linter.unusedVariables false

theorem l1In_yes (a lo hi : Int) (w : World) (h : lo ≤ a ∧ a ≤ hi) : Calls Try.prog 92 #[.int .i64 a, .int .i64 lo, .int .i64 hi] w fun e w' => e = .returned (.bool true) ∧ w = w' := by
  obtain ⟨h1, h2⟩ := h
  go_enter Try.func92, Try.ntmps92
  go_wp2
  go_ret
  exact ⟨rfl, rfl⟩
theorem l1In_no (a lo hi : Int) (w : World) (h : ¬ (lo ≤ a ∧ a ≤ hi)) : Calls Try.prog 92 #[.int .i64 a, .int .i64 lo, .int .i64 hi] w fun e w' => e = .returned (.bool false) ∧ w = w' := by
  by_cases h1 : lo ≤ a
  · have h2 : ¬ a ≤ hi := fun g => h ⟨h1, g⟩
    clear h
    go_enter Try.func92, Try.ntmps92
    go_wp2
    go_ret
    exact ⟨rfl, rfl⟩
  · clear h
    go_enter Try.func92, Try.ntmps92
    go_wp2
    go_ret
    exact ⟨rfl, rfl⟩
end Go.Proofs.Ytehpeifaknbcnaa
