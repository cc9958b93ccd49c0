/-
  JOINED TEXTS, each under its own namespace line: EqNet, In.
-/
import Derived.Test.YtehpeifaknbcnaaLawNet
import Derived.Test.YtehpeifaknbcnaaRows
import Derived.WalkLawsBesides
import Derived.LoopTactic
import Derived.Lib.Hide
namespace Go.Proofs.Ytehpeifaknbcnaa
open Go.RowKit
set_option linter.unusedVariables false

theorem eqLine_same (v v' : Value) (l : LineD) (w : World) (hr : LineV w v l) (hr' : LineV w v' l) :
    Calls Try.prog 96 #[v, v'] w fun e w' => e = .returned (.bool true) ∧ Below w.heap.size w w' := by
  obtain ⟨sv, rv, rfl, hs, hrr⟩ := hr
  obtain ⟨sv', rv', rfl, hs', hrr'⟩ := hr'
  have HS := Lib.hid (fun W (hW : Below w.heap.size w W) => eqIntS_same sv sv' l.stops W (hs.below rfl hW) (hs'.below rfl hW))
  have HR := Lib.hid (fun W (hW : Below w.heap.size w W) => eqIntS_same rv rv' l.runs W (hrr.below rfl hW) (hrr'.below rfl hW))
  obtain ⟨a, c, rfl, _⟩ := ints_open hs
  obtain ⟨a', c', rfl, _⟩ := ints_open hrr
  obtain ⟨a2, c2, rfl, _⟩ := ints_open hs'
  obtain ⟨a2', c2', rfl, _⟩ := ints_open hrr'
  clear hs hrr hs' hrr'
  have hnn : (l.name.toList != l.name.toList) = false := by simp
  generalize l.name = nm at *
  go_enter Try.func96, Try.ntmps96
  go_wp2_with fail
  go_at_call 71
  refine (HS.out _ (((Below.refl _ _).alloc (Nat.le_refl _) _).alloc (by simp) _)).mono ?_
  rintro e w1 ⟨rfl, hb1⟩
  have HB1 : Hid (Below w.heap.size w w1) := (((Below.refl _ _).alloc (Nat.le_refl _) _).alloc (by simp) _).trans (hb1.mono (by simp; omega))
  have p2 : w1.cell? ⟨w.heap.size, 2, none⟩ = some (.slice a' l.runs.length c') := bkeep hb1 (by go_simp)
  have q2 : w1.cell? ⟨w.heap.size + 1, 2, none⟩ = some (.slice a2' l.runs.length c2') := bkeep hb1 (by go_simp)
  clear hb1
  go_wp2_with fail
  go_at_call 71
  refine (HR.out _ HB1.out).mono ?_
  rintro e w2 ⟨rfl, hb2⟩
  have HB2 : Hid (Below w.heap.size w w2) := HB1.out.trans (hb2.mono HB1.out.size)
  clear hb2
  go_wp2_with fail
  go_ret
  exact ⟨rfl, HB2.out⟩

theorem keepE {W w w' : World} {p0 p1 p2 p3 p4 p5 : Addr} {x0 x1 x2 x3 x4 x5 : Value} (hb : Below w.heap.size w w')
    (h : w.cell? p0 = some x0 ∧ w.cell? p1 = some x1 ∧ w.cell? p2 = some x2 ∧ w.cell? p3 = some x3 ∧ w.cell? p4 = some x4 ∧ w.cell? p5 = some x5 ∧ Below W.heap.size W w) :
    w'.cell? p0 = some x0 ∧ w'.cell? p1 = some x1 ∧ w'.cell? p2 = some x2 ∧ w'.cell? p3 = some x3 ∧ w'.cell? p4 = some x4 ∧ w'.cell? p5 = some x5 ∧ Below W.heap.size W w' := by
  obtain ⟨h0, h1, h2, h3, h4, h5, h6⟩ := h
  exact ⟨bkeep hb h0, bkeep hb h1, bkeep hb h2, bkeep hb h3, bkeep hb h4, bkeep hb h5, h6.trans (hb.mono h6.size)⟩

set_option maxHeartbeats 1000000 in
theorem eqLineS_same (v v' : Value) (ls : List LineD) (w : World) (hr : LinesAt w v ls) (hr' : LinesAt w v' ls) :
    Calls Try.prog 55 #[v, v'] w fun e w' => e = .returned (.bool true) ∧ Below w.heap.size w w' := by
  obtain ⟨a, c, rfl, hc, hm, HC⟩ := lines_open hr
  obtain ⟨a', c', rfl, hc', hm', HC'⟩ := lines_open hr'
  clear hr hr'
  go_enter Try.func55, Try.ntmps55
  go_wp2_with fail
  go_loopw [5] (fun i wr => ∃ k : Nat, k ≤ ls.length ∧ i = .int .i64 k ∧ Below w.heap.size w wr)
    (fun i _ => ls.length - (RowKit.intOf i).toNat)
  case atStart => exact ⟨0, Nat.zero_le _, rfl, Below.refl _ _⟩
  case round =>
    obtain ⟨k, hk, rfl, hbel⟩ := hrel
    by_cases hlt : k < ls.length
    · obtain ⟨b, off, rfl, hbl, hla⟩ := HC.out k hlt
      obtain ⟨b', off', rfl, hbl', hla'⟩ := HC'.out k hlt
      obtain ⟨sv, rv, y0, y1, y2, hlv⟩ := hla.toV
      obtain ⟨sv', rv', z0, z1, z2, hlv'⟩ := hla'.toV
      have hx0 := hbel.cell (p := ⟨b, off + k * 3, none⟩) hbl
      rw [y0] at hx0
      have hx1 := hbel.cell (p := ⟨b, off + k * 3 + 1, none⟩) hbl
      rw [y1] at hx1
      have hx2 := hbel.cell (p := ⟨b, off + k * 3 + 2, none⟩) hbl
      rw [y2] at hx2
      have hx0' := hbel.cell (p := ⟨b', off' + k * 3, none⟩) hbl'
      rw [z0] at hx0'
      have hx1' := hbel.cell (p := ⟨b', off' + k * 3 + 1, none⟩) hbl'
      rw [z1] at hx1'
      have hx2' := hbel.cell (p := ⟨b', off' + k * 3 + 2, none⟩) hbl'
      rw [z2] at hx2'
      have HEq := Lib.hid (fun W (hW : Below w.heap.size w W) => eqLine_same _ _ ls[k] W (hlv.below rfl hW) (hlv'.below rfl hW))
      have hk1 : (k : Int) < (ls.length : Int) := by omega
      clear hla hla' hlv hlv' y0 y1 y2 z0 z1 z2
      generalize ls[k].name = nm at *
      go_wp2_with fail
      go_region_held3 (fun w' => w'.cell? ⟨b, off + k * 3, none⟩ = some (.string nm) ∧ w'.cell? ⟨b, off + k * 3 + 1, none⟩ = some sv ∧ w'.cell? ⟨b, off + k * 3 + 2, none⟩ = some rv ∧
          w'.cell? ⟨b', off' + k * 3, none⟩ = some (.string nm) ∧ w'.cell? ⟨b', off' + k * 3 + 1, none⟩ = some sv' ∧ w'.cell? ⟨b', off' + k * 3 + 2, none⟩ = some rv' ∧ Below w.heap.size w w')
        (first | (exact ⟨hx0, hx1, hx2, hx0', hx1', hx2', hbel.drew⟩) | (exact keepE hb (by assumption)))
        ((go_at_call 96; refine (HEq.out _ hbel.drew).mono ?_; rintro e w' ⟨rfl, hb⟩))
      obtain ⟨_, _, _, _, _, _, qb⟩ := (by assumption : _ ∧ _)
      clear hx0 hx1 hx2 hx0' hx1' hx2' hbel
      go_wp2_with fail
      go_roundw
      case rel => exact ⟨k + 1, by omega, by go_num, qb⟩
      case measure => simp [RowKit.intOf]; omega
    · go_wp2_with fail
      go_ret
      exact ⟨rfl, hbel⟩

theorem eqNetwork_same (v v' : Value) (n : NetD) (w : World) (hr : NetAt w v n) (hr' : NetAt w v' n) (hn : n.stops.length ≤ 1048576) :
    Calls Try.prog 17 #[v, v'] w fun e w' => e = .returned (.bool true) ∧ Below w.heap.size w w' := by
  obtain ⟨sv, lv, rfl, hs, hrr⟩ := hr
  obtain ⟨sv', lv', rfl, hs', hrr'⟩ := hr'
  have HS := Lib.hid (fun W (hW : Below w.heap.size w W) => eqStringS_same sv sv' n.stops W (hs.below rfl hW) (hs'.below rfl hW) hn)
  have HR := Lib.hid (fun W (hW : Below w.heap.size w W) => eqLineS_same lv lv' n.lines W (hrr.below rfl hW) (hrr'.below rfl hW))
  obtain ⟨a, c, rfl, _⟩ := strs_open hs
  obtain ⟨a', c', rfl, _⟩ := lines_open hrr
  obtain ⟨a2, c2, rfl, _⟩ := strs_open hs'
  obtain ⟨a2', c2', rfl, _⟩ := lines_open hrr'
  clear hs hrr hs' hrr'
  go_enter Try.func17, Try.ntmps17
  go_wp2_with fail
  go_at_call 54
  refine (HS.out _ (((Below.refl _ _).alloc (Nat.le_refl _) _).alloc (by simp) _)).mono ?_
  rintro e w1 ⟨rfl, m, rfl⟩
  go_wp2_with fail
  go_at_call 55
  refine (HR.out _ (Below.trans (((Below.refl _ _).alloc (Nat.le_refl _) _).alloc (by simp) _) ((Dr.below ⟨m, rfl⟩).mono (by simp; omega)))).mono ?_
  rintro e w2 ⟨rfl, hb2⟩
  have HB2 : Hid (Below w.heap.size w w2) := (Below.trans (((Below.refl _ _).alloc (Nat.le_refl _) _).alloc (by simp) _) ((Dr.below ⟨m, rfl⟩).mono (by simp; omega))).trans (hb2.mono (by simp; omega))
  clear hb2
  go_wp2_with fail
  go_ret
  exact ⟨rfl, HB2.out⟩
end Go.Proofs.Ytehpeifaknbcnaa

namespace Go.Proofs.Ytehpeifaknbcnaa
open Go.RowKit
set_option linter.unusedVariables false

theorem l1In_yes (a lo hi : Int) (w : World) (h : lo ≤ a ∧ a ≤ hi) : Calls Try.prog 92 #[.int .i64 a, .int .i64 lo, .int .i64 hi] w fun e w' => e = .returned (.bool true) ∧ w = w' := by
  obtain ⟨h1, h2⟩ := h
  go_enter Try.func92, Try.ntmps92
  go_wp2
  go_ret
  exact ⟨rfl, rfl⟩
theorem l1In_no (a lo hi : Int) (w : World) (h : ¬ (lo ≤ a ∧ a ≤ hi)) : Calls Try.prog 92 #[.int .i64 a, .int .i64 lo, .int .i64 hi] w fun e w' => e = .returned (.bool false) ∧ w = w' := by
  by_cases h1 : lo ≤ a
  · have h2 : ¬ a ≤ hi := fun g => h ⟨h1, g⟩
    clear h
    go_enter Try.func92, Try.ntmps92
    go_wp2
    go_ret
    exact ⟨rfl, rfl⟩
  · clear h
    go_enter Try.func92, Try.ntmps92
    go_wp2
    go_ret
    exact ⟨rfl, rfl⟩
end Go.Proofs.Ytehpeifaknbcnaa
