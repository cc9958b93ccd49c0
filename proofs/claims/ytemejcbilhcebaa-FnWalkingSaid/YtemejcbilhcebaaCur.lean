import Derived.Test.YtemejcbilhcebaaRows
import Derived.Test.YtemejcbilhcebaaSlices
import Derived.WalkLawsBesides
import Derived.Lib.Hide
import Derived.BigQuiet
import Derived.OwnWalk
import Derived.RegionTactic
import Derived.ChangeAlike
namespace Go.Proofs.Ytemejcbilhcebaa
open Go.RowKit
set_option linter.unusedVariables false

def byteV (c : UInt8) : Value := .int .u8 (c.toNat : Int)

def CodeAt (w : World) (v : Value) : Prop := ∃ l : List UInt8, RowAt w v (l.map byteV)

def SeedOk (s : Int) : Prop := 0 ≤ s ∧ s ≤ 18446744073709551615

def CurAt (w : World) (b : Nat) (v : Value) (n : Nat) : Prop :=
  ∃ (k : Nat) (s : Int), w.heap[b]? = some (.cells #[v, .int .i64 (k : Int), .int .u64 s] 75 (0, 0)) ∧ k ≤ n ∧ SeedOk s

theorem grown_refl (w : World) (r : Option Nat) : w.grownBy w r := ⟨rfl, rfl, rfl, Nat.le_refl _, fun _ _ _ => rfl⟩
theorem grown_trans {a b c : World} {r : Option Nat} (h : a.grownBy b r) (k : b.grownBy c r) : a.grownBy c r :=
  ⟨k.os.trans h.os, k.tape.trans h.tape, k.output.trans h.output, Nat.le_trans h.size k.size, fun i hi hr => (k.block i (Nat.lt_of_lt_of_le hi h.size) hr).trans (h.block i hi hr)⟩

theorem cell_in {w : World} {b : Nat} {cs : Array Value} {t : TypeId} {z : Nat × Nat} (h : w.heap[b]? = some (.cells cs t z)) (j : Nat) : w.cell? ⟨b, j, none⟩ = cs[j]? := by
  simp [World.cell?, h]
theorem frozen_in {w : World} {b : Nat} {cs : Array Value} {t : TypeId} (h : w.heap[b]? = some (.cells cs t (0, 0))) (j : Nat) : w.frozen? ⟨b, j, none⟩ = false := by
  simp [World.frozen?, h]
theorem setCell_in {w : World} {b : Nat} {cs : Array Value} {t : TypeId} {z : Nat × Nat} (h : w.heap[b]? = some (.cells cs t z)) (j : Nat) (u : Value) : (w.setCell ⟨b, j, none⟩ u).heap[b]? = some (.cells (cs.setIfInBounds j u) t z) := by
  simp [World.setCell, Array.getElem?_modify, h]
theorem grown_setCell {w : World} {b j : Nat} {u : Value} : w.grownBy (w.setCell ⟨b, j, none⟩ u) (some b) :=
  ⟨rfl, rfl, rfl, by simp [World.setCell], fun k _ hk => Below.heap_setCell _ _ _ _ (fun e => hk (by simpa using e))⟩
theorem grown_drewN {w : World} {m : Nat} {r : Option Nat} : w.grownBy (w.drewN m) r := ⟨rfl, rfl, rfl, Nat.le_refl _, fun _ _ _ => rfl⟩

theorem u64_bd (x y : Int) (h : IntKind.u64.wrap x = y) : SeedOk y := by
  rw [IntKind.wrap_u64] at h; unfold SeedOk; omega
theorem and255 (e : Int) (h : 0 ≤ e ∧ e ≤ 18446744073709551615) : 0 ≤ bits BinOp.and IntKind.u64 e 255 ∧ bits BinOp.and IntKind.u64 e 255 ≤ 255 := by
  obtain ⟨h0, h1⟩ := h
  have h := bits_and_u64_nat e.toNat 255 (by omega) (by omega)
  rw [Int.toNat_of_nonneg h0] at h
  have h2 : e.toNat &&& 255 ≤ 255 := Nat.and_le_right
  have h3 : bits BinOp.and IntKind.u64 e 255 = ((e.toNat &&& 255 : Nat) : Int) := h
  omega
theorem curAt_mono {w : World} {b n m : Nat} {v : Value} (h : CurAt w b v n) (hn : n ≤ m) : CurAt w b v m := by
  obtain ⟨k, s, h1, h2, h3⟩ := h; exact ⟨k, s, h1, by omega, h3⟩
theorem curAt_drewN {w : World} {b n m : Nat} {v : Value} (h : CurAt w b v n) : CurAt (w.drewN m) b v n := h

set_option maxRecDepth 100000 in
set_option maxHeartbeats 2000000 in
theorem next_any (b n : Nat) (v : Value) (w : World) (hc : CurAt w b v n) (hv : CodeAt w v) (hn : n ≤ 1000000) :
    Calls Try.prog 94 #[.pointer (some ⟨b, 0, none⟩)] w fun e w' => (∃ r : Int, e = .returned (.int .i64 r) ∧ 0 ≤ r ∧ r ≤ 255) ∧ CurAt w' b v (n + 1) ∧ w.grownBy w' (some b) := by
  obtain ⟨k, s, hb, hk, hsd⟩ := hc
  obtain ⟨l, a, c, rfl, hl, hm, hcell⟩ := hv
  rw [List.length_map] at *
  have c0 := cell_in hb 0
  have c1 := cell_in hb 1
  have c2 := cell_in hb 2
  have f1 := frozen_in hb 1
  have f2 := frozen_in hb 2
  simp at c0 c1 c2
  have HB := Lib.hid hb
  have HC := Lib.hid hcell
  clear hb hcell
  by_cases hlt : k < l.length
  · have hk1 : (k : Int) < (l.length : Int) := by omega
    obtain ⟨b2, off, rfl, _, hcx0⟩ := HC.out k _ (by rw [List.getElem?_map, List.getElem?_eq_getElem hlt]; rfl)
    obtain ⟨y, hcx, hy⟩ : ∃ y : Nat, w.cell? ⟨b2, off + k, none⟩ = some (.int .u8 (y : Int)) ∧ (y : Int) < 256 := ⟨_, hcx0, by have := l[k].toNat_lt; omega⟩
    clear hcx0
    go_enter Try.func94, Try.ntmps94
    go_wp2
    go_quiet (fail)
    go_wp2
    go_quiet (fail)
    go_wp2
    generalize hs2 : IntKind.u64.wrap (_ + 900900) = s2
    have hbd := u64_bd _ _ hs2
    clear hs2
    generalize hd : w.drewN _ = w1
    have hb1 : w1.heap[b]? = some (.cells #[.slice (some ⟨b2, off, none⟩) l.length c, .int .i64 (k : Int), .int .u64 s] 75 (0, 0)) := by rw [← hd]; exact HB.out
    have hg : w.grownBy ((w1.setCell ⟨b, 1, none⟩ (.int .i64 ((k : Int) + 1))).setCell ⟨b, 2, none⟩ (.int .u64 s2)) (some b) :=
      grown_trans (by rw [← hd]; exact grown_drewN) (grown_trans grown_setCell grown_setCell)
    have e2 := setCell_in (setCell_in hb1 1 (.int .i64 ((k : Int) + 1))) 2 (.int .u64 s2)
    simp at e2
    clear hd hb1
    generalize (w1.setCell ⟨b, 1, none⟩ (.int .i64 ((k : Int) + 1))).setCell ⟨b, 2, none⟩ (.int .u64 s2) = W2 at *
    have d0 := cell_in e2 0
    have d1 := cell_in e2 1
    have d2 := cell_in e2 2
    simp at d0 d1 d2
    have E2 := Lib.hid e2
    have HG := Lib.hid hg
    have hcur : CurAt W2 b (.slice (some ⟨b2, off, none⟩) l.length c) (k + 1) := ⟨k + 1, s2, by rw [E2.out]; rfl, Nat.le_refl _, hbd⟩
    have HCUR := Lib.hid hcur
    clear e2 hg hcur c0 c1 c2
    go_quiet (fail)
    go_wp2
    go_ret
    exact ⟨⟨_, rfl, by omega, by omega⟩, curAt_drewN (curAt_mono HCUR.out (by omega)), grown_trans HG.out grown_drewN⟩
  · have hk1 : (l.length : Int) ≤ (k : Int) := by omega
    go_enter Try.func94, Try.ntmps94
    go_wp2
    go_quiet (fail)
    go_wp2
    generalize hs2 : IntKind.u64.wrap (_ + 900900) = s2
    have hbd := u64_bd _ _ hs2
    clear hs2
    generalize hd : w.drewN _ = w1
    have hb1 : w1.heap[b]? = some (.cells #[.slice a l.length c, .int .i64 (k : Int), .int .u64 s] 75 (0, 0)) := by rw [← hd]; exact HB.out
    have hg : w.grownBy ((w1.setCell ⟨b, 1, none⟩ (.int .i64 ((k : Int) + 1))).setCell ⟨b, 2, none⟩ (.int .u64 s2)) (some b) :=
      grown_trans (by rw [← hd]; exact grown_drewN) (grown_trans grown_setCell grown_setCell)
    have e2 := setCell_in (setCell_in hb1 1 (.int .i64 ((k : Int) + 1))) 2 (.int .u64 s2)
    simp at e2
    clear hd hb1
    generalize (w1.setCell ⟨b, 1, none⟩ (.int .i64 ((k : Int) + 1))).setCell ⟨b, 2, none⟩ (.int .u64 s2) = W2 at *
    have d0 := cell_in e2 0
    have d1 := cell_in e2 1
    have d2 := cell_in e2 2
    simp at d0 d1 d2
    have E2 := Lib.hid e2
    have HG := Lib.hid hg
    have hcur : CurAt W2 b (.slice a l.length c) (k + 1) := ⟨k + 1, s2, by rw [E2.out]; rfl, Nat.le_refl _, hbd⟩
    have HCUR := Lib.hid hcur
    clear e2 hg hcur c0 c1 c2
    go_quiet (fail)
    go_wp2
    go_ret
    refine ⟨⟨_, rfl, ?_, ?_⟩, curAt_drewN (curAt_mono HCUR.out (by omega)), grown_trans HG.out grown_drewN⟩
    · have := and255 (s2 / 1099511627776) (by unfold SeedOk at hbd; omega)
      unfold wrap64; omega
    · have := and255 (s2 / 1099511627776) (by unfold SeedOk at hbd; omega)
      unfold wrap64; omega

def CodeOff (w : World) (b : Nat) (v : Value) : Prop := CodeAt w v ∧ ∀ a n c, v = .slice (some a) n c → 0 < n → a.block ≠ b
theorem codeOff_grown {w w' : World} {b : Nat} {v : Value} (h : CodeOff w b v) (hg : w.grownBy w' (some b)) : CodeOff w' b v := by
  obtain ⟨⟨l, a, c, hv, h1, h2, h3⟩, hoff⟩ := h
  refine ⟨⟨l, a, c, hv, h1, h2, fun k u hu => ?_⟩, hoff⟩
  obtain ⟨b2, off, ha, hlt, hc⟩ := h3 k u hu
  have hne : b2 ≠ b := by have := hoff ⟨b2, off, none⟩ _ _ (by rw [hv, ha]) (by have := (List.getElem?_eq_some_iff.1 hu).1; omega); exact this
  exact ⟨b2, off, ha, Nat.lt_of_lt_of_le hlt hg.size, by rw [World.cell?_of_block (hg.block b2 hlt (by simpa using hne))]; exact hc⟩

def CurPost (w : World) (b n : Nat) (v : Value) (w' : World) : Prop := CurAt w' b v n ∧ CodeOff w' b v ∧ w.grownBy w' (some b)

set_option maxRecDepth 100000 in
set_option maxHeartbeats 1000000 in
theorem pick_any (b n : Nat) (v : Value) (m : Int) (w : World) (hc : CurAt w b v n) (hv : CodeOff w b v) (hn : n ≤ 900000) (hm : m ≤ 1000000) :
    Calls Try.prog 42 #[.pointer (some ⟨b, 0, none⟩), .int .i64 m] w fun e w' => (∃ r : Int, e = .returned (.int .i64 r) ∧ 0 ≤ r ∧ (1 ≤ m → r < m)) ∧ CurPost w b (n + 2) v w' := by
  by_cases h1 : m ≤ 1
  · have hfin : CurPost w b (n + 2) v w := ⟨curAt_mono hc (by omega), hv, grown_refl _ _⟩
    have HF := Lib.hid hfin
    clear hc hv hfin
    by_cases hmin : -9223372036854775808 ≤ m
    · go_enter Try.func42, Try.ntmps42
      go_wp2_with fail
      go_ret
      exact ⟨⟨0, rfl, by omega, by omega⟩, HF.out⟩
    · go_enter Try.func42, Try.ntmps42
      go_wp2_with fail
      go_ret
      exact ⟨⟨0, rfl, by omega, by omega⟩, HF.out⟩
  · have H1 := Lib.hid (next_any b n v w hc hv.1 (by omega))
    have HV := Lib.hid hv
    clear hc hv
    by_cases h2 : m ≤ 200
    · go_enter Try.func42, Try.ntmps42
      go_wp2_with fail
      go_at_call 94
      refine H1.out.mono ?_
      rintro e w1 ⟨⟨r, rfl, r0, r1⟩, hcur, hg⟩
      have hfin : CurPost w b (n + 2) v w1 := ⟨curAt_mono hcur (by omega), codeOff_grown HV.out hg, hg⟩
      have HF := Lib.hid hfin
      clear hcur hg hfin
      have e0 := Int.emod_nonneg r (b := m) (by omega)
      have e1 := Int.emod_lt_of_pos r (b := m) (by omega)
      go_wp2_with fail
      go_ret
      exact ⟨⟨_, rfl, by omega, by omega⟩, HF.out⟩
    · go_enter Try.func42, Try.ntmps42
      go_wp2_with fail
      go_at_call 94
      refine H1.out.mono ?_
      rintro e w1 ⟨⟨r, rfl, r0, r1⟩, hcur, hg⟩
      have hv1 := codeOff_grown HV.out hg
      have H2 := Lib.hid (next_any b (n + 1) v w1 hcur hv1.1 (by omega))
      have HG := Lib.hid hg
      have HV1 := Lib.hid hv1
      clear hcur hg hv1
      go_wp2_with fail
      go_at_call 94
      refine H2.out.mono ?_
      rintro e w2 ⟨⟨q, rfl, q0, q1⟩, hcur2, hg2⟩
      have hfin : CurPost w b (n + 2) v w2 := ⟨hcur2, codeOff_grown HV1.out hg2, grown_trans HG.out hg2⟩
      have HF := Lib.hid hfin
      clear hcur2 hg2 hfin
      have e0 := Int.emod_nonneg (r * 256 + q) (b := m) (by omega)
      have e1 := Int.emod_lt_of_pos (r * 256 + q) (b := m) (by omega)
      go_wp2_with fail
      go_ret
      exact ⟨⟨_, rfl, by omega, by omega⟩, HF.out⟩

theorem one_any (b n : Nat) (v : Value) (m : Int) (w : World) (hc : CurAt w b v n) (hv : CodeOff w b v) (hn : n ≤ 900000) (hm : m ≤ 1000000) :
    Calls Try.prog 64 #[.pointer (some ⟨b, 0, none⟩), .int .i64 m] w fun e w' => (∃ r : Bool, e = .returned (.bool r)) ∧ CurPost w b (n + 2) v w' := by
  have H1 := Lib.hid (pick_any b n v m w hc hv hn hm)
  clear hc hv
  go_enter Try.func64, Try.ntmps64
  go_wp2_with fail
  go_at_call 42
  refine H1.out.mono ?_
  rintro e w1 ⟨⟨r, rfl, r0, r1⟩, hp⟩
  go_wp2_with fail
  go_ret
  exact ⟨⟨_, rfl⟩, hp⟩
end Go.Proofs.Ytemejcbilhcebaa
