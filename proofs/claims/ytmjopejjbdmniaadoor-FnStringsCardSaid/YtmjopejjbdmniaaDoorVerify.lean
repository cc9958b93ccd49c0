/-
  CONTRACTS: spec.VerifyChecksum and impl.VerifyChecksum return the text that was sealed, where there is one, else the empty string and false; what was in memory stays as it was.
-/
import Derived.Test.YtmjopejjbdmniaaDoorSplit
import Derived.Test.YtmjopejjbdmniaaDoorAppend
import Derived.Lib.AppendIntMem
namespace Go.Proofs.YtmjopejjbdmniaaDoor
open Go.RowKit Go.Sort
open Go.Lib hiding intOf
set_option linter.unusedVariables false

theorem own_cells {w : World} {B : Nat} {e : TypeId} {v : Value} {n : Nat} {xs : List Value} (h : w.ownsRow B e 1 v n xs) (hn : 0 < n) :
    ∃ g cap, v = .slice (some ⟨g, 0, none⟩) n cap ∧ B ≤ g ∧ g < w.heap.size ∧ n ≤ cap ∧ cap ≤ maxLen ∧ ∀ j u, xs[j]? = some u → w.cell? ⟨g, j, none⟩ = some u := by
  have hc := fun g hg => h.cells (g := g) hg
  have hl := h.lt
  obtain ⟨_, h2⟩ := h
  rcases h2 with ⟨_, h0⟩ | ⟨g, cap, cur, hv, hg, hh, h1, h3, _⟩
  · omega
  · refine ⟨g, cap, hv, hg, (hl g (by rw [hv]; rfl)).2, h1, h3, fun j u hj => ?_⟩
    have := hc g (by rw [hv]; rfl) j u hj
    have e : (⟨g, 0, none⟩ : Addr).add j = ⟨g, j, none⟩ := by
      by_cases h0 : j = 0
      · subst h0; simp [Addr.add]
      · simp [Addr.add, h0]
    rw [← e]; exact this

/-- the part of a text that was sealed -/
def openL (l : List UInt8) : List UInt8 := l.takeWhile (· != 35)
def Opens (l : List UInt8) : Prop := l.length ≤ 4000 ∧ sealL (openL l) = l
theorem openL_len (l : List UInt8) : (openL l).length ≤ l.length := takeWhile_le 35 l
theorem seals_of_opens {l : List UInt8} (h : Opens l) : Seals (openL l) := ⟨by have := openL_len l; have := h.1; omega, takeWhile_not 35 l, by rw [h.2]; exact h.1⟩

set_option maxHeartbeats 1000000 in
theorem specVerify_any (s : ByteArray) (w : World) (hs : s.size ≤ 1048576) :
    (Opens s.data.toList → Calls Tryd.prog 20 #[.string s] w fun e w' => e = .returned (.tuple #[.string ⟨(openL s.data.toList).toArray⟩, .bool true]) ∧ Below w.heap.size w w') ∧
    (¬ Opens s.data.toList → Calls Tryd.prog 20 #[.string s] w fun e w' => e = .returned (.tuple #[.string ⟨#[]⟩, .bool false]) ∧ Below w.heap.size w w') := by
  have hlen := length_list s
  by_cases h1 : 4000 < s.size
  · refine ⟨fun h => absurd h.1 (by omega), fun _ => ?_⟩
    go_enter Tryd.func20, Tryd.ntmps20
    go_wp2_with fail
    go_ret2
    exact ⟨rfl, Below.refl _ _⟩
  · have H := Lib.hid (l1Split_any s 35 w hs)
    have hh := splitL_head 35 s.data.toList
    have hne : 0 < (splitL 35 s.data.toList).length := by simp [splitL]
    have HF : Hid (((splitL 35 s.data.toList).map strV)[0]? = some (.string ⟨(openL s.data.toList).toArray⟩)) := by
      show _ = _
      rw [List.getElem?_map, ← List.head?_eq_getElem?, hh]; rfl
    have hol := openL_len s.data.toList
    have HG := Lib.hid (fun w1 => l1Seal_any ⟨(openL s.data.toList).toArray⟩ w1 (by rw [size_mk]; omega))
    clear hh hol
    by_cases h2 : sealL (openL s.data.toList) = s.data.toList
    · refine ⟨fun _ => ?_, fun h => absurd ⟨by omega, h2⟩ h⟩
      have hcmp : (sealL (openL s.data.toList) == s.toList) = true := by rw [ByteArray.toList_eq, beq_iff_eq]; exact h2
      clear h2 hlen
      generalize splitL 35 s.data.toList = parts at *
      generalize openL s.data.toList = x at *
      go_enter Tryd.func20, Tryd.ntmps20
      go_wp2_with fail
      go_at_call 36
      refine H.out.mono ?_
      rintro e w1 ⟨v, rfl, hown, hb⟩
      obtain ⟨g, cap, rfl, _, _, _, _, hcell⟩ := own_cells hown hne
      have hc0 := hcell 0 _ HF.out
      have hn0 : (0 : Int) < (parts.length : Int) := by omega
      clear hcell hown
      go_wp2_with (go_at_call 34; refine (HG.out _).mono ?_; rintro e w' ⟨rfl, m, rfl⟩)
      go_ret2
      exact ⟨by simp, hb.trans ((below_drewN' w1 m).mono hb.size)⟩
    · refine ⟨fun h => absurd h.2 h2, fun _ => ?_⟩
      have hcmp : (sealL (openL s.data.toList) == s.toList) = false := by rw [ByteArray.toList_eq, beq_eq_false_iff_ne]; exact h2
      clear h2 hlen
      generalize splitL 35 s.data.toList = parts at *
      generalize openL s.data.toList = x at *
      go_enter Tryd.func20, Tryd.ntmps20
      go_wp2_with fail
      go_at_call 36
      refine H.out.mono ?_
      rintro e w1 ⟨v, rfl, hown, hb⟩
      obtain ⟨g, cap, rfl, _, _, _, _, hcell⟩ := own_cells hown hne
      have hc0 := hcell 0 _ HF.out
      have hn0 : (0 : Int) < (parts.length : Int) := by omega
      clear hcell hown
      go_wp2_with (go_at_call 34; refine (HG.out _).mono ?_; rintro e w' ⟨rfl, m, rfl⟩)
      go_ret2
      exact ⟨by simp, hb.trans ((below_drewN' w1 m).mono hb.size)⟩

theorem cutHash (s : ByteArray) (m : Int) (w : World) (hs : s.size < 4294967281) (hm : w.cell? ⟨2, 0, none⟩ = some (.int .i64 m)) :
    Calls Tryd.prog 35 #[.string s, .string ⟨#[35]⟩] w fun e w' => ∃ x y, e = .returned (.tuple #[.string ⟨(openL s.data.toList).toArray⟩, x, y]) ∧ ∃ n, w' = w.drewN n :=
  (Tryd.strings_Cut s ⟨#[35]⟩ m w hs hm).mono fun e w' ⟨he, hw⟩ => by
    refine ⟨.string ⟨(cut s.data.toList [35]).2.1.toArray⟩, .bool (cut s.data.toList [35]).2.2, ?_, hw⟩
    have e1 : openL s.data.toList = (cut s.data.toList [35]).1 := (cut_one 35 s.data.toList).symm
    rw [e1]; exact he

set_option maxHeartbeats 1000000 in
theorem implVerify_any (s : ByteArray) (w : World) (hs : s.size < 4294967281) (m : Int) (hm : w.cell? ⟨2, 0, none⟩ = some (.int .i64 m)) (htab : TabBelow Tryd.prog w.heap.size w "internal/strconv.uint64pow10" .u64 pow10Tab) :
    (Opens s.data.toList → Calls Tryd.prog 18 #[.string s] w fun e w' => e = .returned (.tuple #[.string ⟨(openL s.data.toList).toArray⟩, .bool true]) ∧ Below w.heap.size w w') ∧
    (¬ Opens s.data.toList → Calls Tryd.prog 18 #[.string s] w fun e w' => e = .returned (.tuple #[.string ⟨#[]⟩, .bool false]) ∧ Below w.heap.size w w') := by
  have hlen := length_list s
  have HC := Lib.hid (cutHash s m w hs hm)
  have hol := openL_len s.data.toList
  by_cases hse : Seals (openL s.data.toList)
  · have HA := Lib.hid (fun n => implAppend_yes ⟨(openL s.data.toList).toArray⟩ (w.drewN n) (by simpa using hse) (htab _ (below_drewN' w n)))
    have e1 : (ByteArray.mk (openL s.data.toList).toArray).data.toList = openL s.data.toList := by simp
    rw [e1] at HA
    by_cases h2 : sealL (openL s.data.toList) = s.data.toList
    · refine ⟨fun _ => ?_, fun h => absurd ⟨by rw [← h2]; exact hse.2.2, h2⟩ h⟩
      have hcmp : (sealL (openL s.data.toList) == s.toList) = true := by rw [ByteArray.toList_eq, beq_iff_eq]; exact h2
      clear h2 hlen hse hol e1 hm htab
      generalize openL s.data.toList = x at *
      go_enter Tryd.func18, Tryd.ntmps18
      go_wp2_with (first | (go_at_call 35; refine HC.out.mono ?_; rintro e w' ⟨x1, y1, rfl, n, rfl⟩) | (go_at_call 16; refine (HA.out _).mono ?_; rintro e w' ⟨rfl, hb⟩))
      go_ret2
      exact ⟨rfl, (below_drewN' w n).trans (hb.mono (by simp))⟩
    · refine ⟨fun h => absurd h.2 h2, fun _ => ?_⟩
      have hcmp : (sealL (openL s.data.toList) == s.toList) = false := by rw [ByteArray.toList_eq, beq_eq_false_iff_ne]; exact h2
      clear h2 hlen hse hol e1 hm htab
      generalize openL s.data.toList = x at *
      go_enter Tryd.func18, Tryd.ntmps18
      go_wp2_with (first | (go_at_call 35; refine HC.out.mono ?_; rintro e w' ⟨x1, y1, rfl, n, rfl⟩) | (go_at_call 16; refine (HA.out _).mono ?_; rintro e w' ⟨rfl, hb⟩))
      go_ret2
      exact ⟨rfl, (below_drewN' w n).trans (hb.mono (by simp))⟩
  · refine ⟨fun h => absurd (seals_of_opens h) hse, fun _ => ?_⟩
    have HA := Lib.hid (fun n => implAppend_no ⟨(openL s.data.toList).toArray⟩ (w.drewN n) (by rw [size_mk]; unfold maxLen; omega) (by simpa using hse) (htab _ (below_drewN' w n)))
    clear hlen hse hol hm htab
    generalize openL s.data.toList = x at *
    go_enter Tryd.func18, Tryd.ntmps18
    go_wp2_with (first | (go_at_call 35; refine HC.out.mono ?_; rintro e w' ⟨x1, y1, rfl, n, rfl⟩) | (go_at_call 16; refine (HA.out _).mono ?_; rintro e w' ⟨rfl, hb⟩))
    go_ret2
    exact ⟨rfl, (below_drewN' w n).trans (hb.mono (by simp))⟩
end Go.Proofs.YtmjopejjbdmniaaDoor
