/-
  What spec.FormatNetwork and impl.FormatNetwork both return.
-/
import Derived.Test.YtffcgblionlhhaaDoorGood
import Derived.Test.YtffcgblionlhhaaDoorImplNet
import Derived.Test.YtffcgblionlhhaaDoorL6Net
import Derived.Test.YtffcgblionlhhaaDoorWriteNet
namespace Go.Proofs.YtffcgblionlhhaaDoor
open Go.RowKit
set_option linter.unusedVariables false

def fnF (n : NetD) : ByteArray × Bool := if NetGood n then (⟨(netTx n).toArray⟩, true) else (⟨#[]⟩, false)

set_option maxRecDepth 100000 in
set_option maxHeartbeats 1000000 in
theorem specFormatNetwork_any (v : Value) (n : NetD) (w : World) (hr : NetAt w v n) (hf : NetFits n) :
    Calls Tryd.prog 31 #[v] w fun e w' => e = .returned (.tuple #[.string (fnF n).1, .bool (fnF n).2]) ∧ Below w.heap.size w w' := by
  have HG := Lib.hid (fun W (hW : Below w.heap.size w W) => l2Good_any v n W (hr.below rfl hW) hf)
  have HL := Lib.hid (fun W (hW : Below w.heap.size w W) (hg : NetGood n) => l6Network_any v n W (hr.below rfl hW) hg)
  obtain ⟨a, c, a', c', rfl, -, -⟩ := net_open hr
  clear hr hf
  by_cases hg : NetGood n
  · rw [netB_yes hg] at HG
    rw [show fnF n = (⟨(netTx n).toArray⟩, true) from if_pos hg]
    have HL2 := Lib.hid (fun W hW => HL.out W hW hg)
    clear HL hg
    go_enter Tryd.func31, Tryd.ntmps31
    go_wp2_with fail
    go_at_call 83
    refine (HG.out _ ((Below.refl _ _).alloc (Nat.le_refl _) _)).mono ?_
    rintro e w1 ⟨rfl, hb1⟩
    have HB1 : Hid (Below w.heap.size w w1) := ((Below.refl _ _).alloc (Nat.le_refl _) _).trans (hb1.mono (by simp))
    have p0 : w1.cell? ⟨w.heap.size, 0, none⟩ = some (.slice a n.stops.length c) := bkeep hb1 (by go_simp)
    have p1 : w1.cell? ⟨w.heap.size, 1, none⟩ = some (.slice a' n.lines.length c') := bkeep hb1 (by go_simp)
    clear hb1
    go_wp2_with fail
    go_at_call 84
    refine (HL2.out _ HB1.out).mono ?_
    rintro e w2 ⟨rfl, hb2⟩
    have HB2 : Hid (Below w.heap.size w w2) := HB1.out.trans (hb2.mono HB1.out.size)
    clear hb2
    go_wp2_with fail
    go_ret2
    exact ⟨rfl, HB2.out⟩
  · rw [netB_no hg] at HG
    rw [show fnF n = (⟨#[]⟩, false) from if_neg hg]
    clear HL hg
    go_enter Tryd.func31, Tryd.ntmps31
    go_wp2_with fail
    go_at_call 83
    refine (HG.out _ ((Below.refl _ _).alloc (Nat.le_refl _) _)).mono ?_
    rintro e w1 ⟨rfl, hb1⟩
    have HB1 : Hid (Below w.heap.size w w1) := ((Below.refl _ _).alloc (Nat.le_refl _) _).trans (hb1.mono (by simp))
    clear hb1
    go_wp2_with fail
    go_ret2
    exact ⟨rfl, HB1.out⟩

set_option maxRecDepth 100000 in
set_option maxHeartbeats 2000000 in
theorem implFormatNetwork_any (v : Value) (n : NetD) (w : World) (hr : NetAt w v n) (hf : NetFits n) :
    Calls Tryd.prog 33 #[v] w fun e w' => e = .returned (.tuple #[.string (fnF n).1, .bool (fnF n).2]) ∧ Below w.heap.size w w' := by
  have HG := Lib.hid (fun W (hW : Below w.heap.size w W) => implValid_any v n W (hr.below rfl hW) hf)
  have HWn := Lib.hid (fun B b L0 W (hg : NetGood n) (hW : Below w.heap.size w W) hBB h hB hL => writeNetwork_any B b L0 v n w W hr hg hW hBB h hB hL)
  obtain ⟨a, c, a', c', rfl, -, -⟩ := net_open hr
  clear hr hf
  by_cases hg : NetGood n
  · rw [netB_yes hg] at HG
    rw [show fnF n = (⟨(netTx n).toArray⟩, true) from if_pos hg]
    have HL2 := Lib.hid (fun B b L0 W hW hBB h hB hL => HWn.out B b L0 W hg hW hBB h hB hL)
    clear HWn hg
    go_enter Tryd.func33, Tryd.ntmps33
    go_wp2_with fail
    go_at_call 87
    refine (HG.out _ ((Below.refl _ _).alloc (Nat.le_refl _) _)).mono ?_
    rintro e w1 ⟨rfl, hb1⟩
    have HB1 : Hid (Below w.heap.size w w1) := ((Below.refl _ _).alloc (Nat.le_refl _) _).trans (hb1.mono (by simp))
    have p0 : w1.cell? ⟨w.heap.size, 0, none⟩ = some (.slice a n.stops.length c) := bkeep hb1 (by go_simp)
    have p1 : w1.cell? ⟨w.heap.size, 1, none⟩ = some (.slice a' n.lines.length c') := bkeep hb1 (by go_simp)
    have hz1 : w.heap.size < w1.heap.size := by have := hb1.size; simp at this; omega
    have HBd : Hid (Bd w1.heap.size w1.heap.size [] (w1.alloc (.cells #[.pointer none, .slice none 0 0] 122 (0, 0)))) := Bd.new w1
    have HB1' : Hid (Below w.heap.size w (w1.alloc (.cells #[.pointer none, .slice none 0 0] 122 (0, 0)))) := HB1.out.alloc HB1.out.size _
    clear hb1
    go_wp2_with fail
    go_at_call 88
    refine (HL2.out w1.heap.size w1.heap.size [] _ HB1'.out (by omega) HBd.out (by simp) (by simp)).mono ?_
    rintro e w2 ⟨rfl, h2, hb2, ho2⟩
    rw [List.nil_append] at h2
    have hz2 := hb2.size
    have hz3 : w1.heap.size ≤ w2.heap.size := by simp at hz2; omega
    have HS := Lib.hid (buildStr_any w1.heap.size w1.heap.size _ w2 h2 hz3)
    have HB2 : Hid (Below w.heap.size w w2) := HB1'.out.trans (hb2.mono (by omega))
    clear h2 hb2 ho2 hz2 p0 p1
    go_wp2_with fail
    go_at_call 89
    refine HS.out.mono ?_
    rintro e w3 ⟨rfl, hb3, -⟩
    have HB3 : Hid (Below w.heap.size w w3) := HB2.out.trans (hb3.mono (by omega))
    clear hb3
    go_wp2_with fail
    go_ret2
    exact ⟨rfl, HB3.out⟩
  · rw [netB_no hg] at HG
    rw [show fnF n = (⟨#[]⟩, false) from if_neg hg]
    clear HWn hg
    go_enter Tryd.func33, Tryd.ntmps33
    go_wp2_with fail
    go_at_call 87
    refine (HG.out _ ((Below.refl _ _).alloc (Nat.le_refl _) _)).mono ?_
    rintro e w1 ⟨rfl, hb1⟩
    have HB1 : Hid (Below w.heap.size w w1) := ((Below.refl _ _).alloc (Nat.le_refl _) _).trans (hb1.mono (by simp))
    clear hb1
    go_wp2_with fail
    go_ret2
    exact ⟨rfl, HB1.out⟩

theorem bothFormatNetwork (n : NetD) (hf : NetFits n) (hs : NetSmall n) : ∃ (r : ByteArray) (b : Bool), ∀ (v : Value) (w : World), NetAt w v n →
    Calls Tryd.prog 31 #[v] w (fun e w' => e = .returned (.tuple #[.string r, .bool b]) ∧ Below w.heap.size w w') ∧
    Calls Tryd.prog 33 #[v] w (fun e w' => e = .returned (.tuple #[.string r, .bool b]) ∧ Below w.heap.size w w') :=
  ⟨_, _, fun v w h => ⟨specFormatNetwork_any v n w h hf, implFormatNetwork_any v n w h hf⟩⟩
end Go.Proofs.YtffcgblionlhhaaDoor
