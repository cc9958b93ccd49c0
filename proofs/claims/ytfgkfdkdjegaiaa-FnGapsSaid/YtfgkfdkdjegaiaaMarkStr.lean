/-
  CONTRACTS of the laws' markStringS and heldStringS.
-/
import Derived.Test.YtfgkfdkdjegaiaaMarkS
import Derived.Deep.RegionHeld3
import Derived.BigQuiet
import Derived.Laws.Entries
namespace Go.Proofs.Ytfgkfdkdjegaiaa
open Go.RowKit
set_option linter.unusedVariables false

/-- the texts that mark n places from k on -/
def marksL (k : Nat) : Nat → List ByteArray
  | 0 => []
  | n + 1 => marksL k n ++ [⟨(markL (k + n)).toArray⟩]
theorem marksL_len (k : Nat) : ∀ n, (marksL k n).length = n
  | 0 => rfl
  | n + 1 => by simp [marksL, marksL_len k n]
theorem marksL_get (k : Nat) : ∀ n j (h : j < (marksL k n).length), (marksL k n)[j] = ⟨(markL (k + j)).toArray⟩
  | 0, j, h => by simp [marksL] at h
  | n + 1, j, h => by
    simp only [marksL]
    rw [List.getElem_append]
    have hl := marksL_len k n
    split
    · exact marksL_get k n j (by assumption)
    · have : j = n := by simp [marksL, hl] at h; omega
      subst this
      simp
set_option maxRecDepth 100000 in
set_option maxHeartbeats 1000000 in
theorem markStringS_own (v : Value) (xs : List ByteArray) (k : Nat) (B : Nat) (w : World) (hr : w.ownsRow B 9 1 v xs.length (strs xs)) (hn : xs.length ≤ 1048576) (hk0 : 0 < k) (hk : k ≤ 4194304) :
    Calls Try.prog 92 #[v, .int .i64 k] w fun e w' => e = .returned (.int .i64 ((k + xs.length : Nat) : Int)) ∧ w'.ownsRow B 9 1 v xs.length (strs (marksL k xs.length)) ∧ w.grownBy w' v.ownBlock := by
  obtain ⟨a, c, rfl⟩ := own_shape hr
  have HO := Lib.hid hr
  clear hr
  have HMk := Lib.hid (fun W j (h : j ≤ 1048576) => markText_any (k + j) W (by omega) (by omega))
  go_enter Try.func92, Try.ntmps92
  go_wp2
  go_loopw [1, 5] (fun q i wr => ∃ j : Nat, j ≤ xs.length ∧ i = .int .i64 j ∧ q = .int .i64 ((k + j : Nat) : Int) ∧ (∃ zs : List Value, zs.length = xs.length ∧ Hid (zs.take j = (strs (marksL k xs.length)).take j) ∧ Hid (wr.ownsRow B 9 1 (.slice a xs.length c) xs.length zs)) ∧ Hid (w.grownBy wr (Value.ownBlock (.slice a xs.length c))))
    (fun _ i _ => xs.length - (RowKit.intOf i).toNat)
  case atStart => exact ⟨0, Nat.zero_le _, rfl, by simp, ⟨_, strs_len xs, rfl, HO.out⟩, World.grownBy.refl _ _⟩
  case round =>
    obtain ⟨j, hj, rfl, rfl, ⟨zs, hzs, HT, HOwn⟩, HG⟩ := hrel
    by_cases hlt : j < xs.length
    · obtain ⟨_, h2⟩ := HOwn.out
      rcases h2 with ⟨hv, h0⟩ | ⟨g, cap, cur, hv, hg, hblk, h3, h4, h5, h6⟩
      · omega
      simp at hv
      obtain ⟨rfl, rfl⟩ := hv
      have hlen : g < wr.heap.size := (Array.getElem?_eq_some_iff.1 hblk).1
      clear hblk h4 h5 h6
      go_wp2_with fail
      go_at_call 110
      refine (HMk.out _ j (by omega)).mono ?_
      rintro e w1 ⟨rfl, hb1⟩
      have hown := own_later HOwn.out hb1
      have hoc : w1.cell? ⟨g, j, none⟩ = some (zs[j]'(by omega)) := by rw [hown.cellAt j (by omega)]; exact List.getElem?_eq_getElem _
      have hof := hown.frozenAt j
      have HOwn2 := Lib.hid (hown.stored j (.string ⟨(markL (k + j)).toArray⟩)).1
      have HT2 : Hid ((zs.set j (.string ⟨(markL (k + j)).toArray⟩)).take (j + 1) = (strs (marksL k xs.length)).take (j + 1)) := by
        have hl2 : j < (strs (marksL k xs.length)).length := by rw [strs_len, marksL_len]; exact hlt
        have := take_set_succ zs (strs (marksL k xs.length)) j (by omega) hl2 HT.out
        have e : (strs (marksL k xs.length))[j]'hl2 = .string ⟨(markL (k + j)).toArray⟩ := by simp only [strs, List.getElem_map]; rw [marksL_get]
        rw [e] at this; exact this
      have HG2 : Hid (w.grownBy (w1.setCell ⟨g, j, none⟩ (.string ⟨(markL (k + j)).toArray⟩)) (some g)) :=
        ⟨hb1.os.trans HG.out.os, hb1.tape.trans HG.out.tape, hb1.output.trans HG.out.output, by have := HG.out.size; have := hb1.size; simp [World.setCell]; omega, fun q hq hne => by
          rw [Below.heap_setCell _ _ _ _ (fun e => hne (by rw [e])), hb1.block q (Nat.lt_of_lt_of_le hq HG.out.size)]; exact HG.out.block q hq hne⟩
      clear hown hb1 HOwn HG HT
      generalize zs[j] = old at *
      generalize ByteArray.mk (markL (k + j)).toArray = tx at *
      go_wp2_with fail
      go_roundw
      case rel => exact ⟨j + 1, by omega, by go_num, by go_num, ⟨_, by simpa using hzs, HT2, HOwn2⟩, HG2⟩
      case measure => simp [RowKit.intOf]; omega
    · have hjl : j = xs.length := by omega
      subst hjl
      go_wp2_with fail
      go_ret
      refine ⟨rfl, ?_, HG.out⟩
      have := HT.out
      rw [List.take_of_length_le (by omega), List.take_of_length_le (by rw [strs_len, marksL_len]; omega)] at this
      rw [← this]; exact HOwn.out

theorem keepM {W w w' : World} {p : Addr} {x : Value} (hb : Below w.heap.size w w') (h : w.cell? p = some x ∧ Below W.heap.size W w) : w'.cell? p = some x ∧ Below W.heap.size W w' :=
  ⟨bkeep hb h.1, h.2.trans (hb.mono h.2.size)⟩

end Go.Proofs.Ytfgkfdkdjegaiaa
