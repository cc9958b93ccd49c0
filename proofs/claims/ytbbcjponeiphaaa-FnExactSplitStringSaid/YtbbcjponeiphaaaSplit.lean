/-
  CONTRACT of spec.l1Split: a slice of its own memory that holds the parts of a text between bytes; what was in memory stays as it was.
-/
import Derived.Test.YtbbcjponeiphaaaRows
import Derived.Test.YtbbcjponeiphaaaStr
import Derived.Test.YtbbcjponeiphaaaPlain1
import Derived.WalkLawsBesides
import Derived.LoopTactic
import Derived.Lib.Hide
import Derived.Maps.AppendAt
import Derived.OwnWalk
import Derived.Laws.OwnMore
namespace Go.Proofs.Ytbbcjponeiphaaa
open Go.RowKit Go.Sort
open Go.Lib
set_option linter.unusedVariables false

theorem infoStr : (Try.prog.info? 9).map (fun i => (i.zero, i.size, i.bytes)) = some (some (.string ⟨#[]⟩), 1, 16) := by kernel_rfl

def strV (l : List UInt8) : Value := .string ⟨l.toArray⟩

theorem length_take (s : ByteArray) (k : Nat) (h : k ≤ s.size) : (s.data.toList.take k).length = k := by rw [List.length_take, length_list]; omega

/-- what the loop knows at k: where the part that is being gathered begins -/
def SpAt (c : UInt8) (s : ByteArray) (k j : Nat) : Prop := j + (spFold c (s.data.toList.take k)).2.length = k
theorem spAt_zero (c : UInt8) (s : ByteArray) : SpAt c s 0 0 := by simp [SpAt, spFold]
theorem spAt_le {c : UInt8} {s : ByteArray} {k j : Nat} (h : SpAt c s k j) : j ≤ k := by unfold SpAt at h; omega
theorem sp_part {c : UInt8} {s : ByteArray} {k j : Nat} (hk : k ≤ s.size) (h : SpAt c s k j) : Value.string (s.extract j k) = strV (spFold c (s.data.toList.take k)).2 := by
  obtain ⟨_, h2, _, _⟩ := spFold_facts c (s.data.toList.take k)
  rw [length_take s k hk, show k - (spFold c (s.data.toList.take k)).2.length = j by unfold SpAt at h; omega] at h2
  rw [h2, strV, eq_mk (s.extract j k), extract_data, List.drop_take]
theorem sp_hit {c : UInt8} {s : ByteArray} {k j : Nat} (hk : k < s.size) (h : SpAt c s k j) (e : s[k] = c) :
    spFold c (s.data.toList.take (k + 1)) = ((spFold c (s.data.toList.take k)).1 ++ [(spFold c (s.data.toList.take k)).2], []) ∧ SpAt c s (k + 1) (k + 1) := by
  have e1 : spFold c (s.data.toList.take (k + 1)) = ((spFold c (s.data.toList.take k)).1 ++ [(spFold c (s.data.toList.take k)).2], []) := by
    rw [take_snoc s k hk, spFold_snoc, spStep, if_pos e]
  exact ⟨e1, by unfold SpAt; rw [e1]; rfl⟩
theorem sp_miss {c : UInt8} {s : ByteArray} {k j : Nat} (hk : k < s.size) (h : SpAt c s k j) (e : s[k] ≠ c) :
    (spFold c (s.data.toList.take (k + 1))).1 = (spFold c (s.data.toList.take k)).1 ∧ SpAt c s (k + 1) j := by
  have e1 : spFold c (s.data.toList.take (k + 1)) = ((spFold c (s.data.toList.take k)).1, (spFold c (s.data.toList.take k)).2 ++ [s[k]]) := by
    rw [take_snoc s k hk, spFold_snoc, spStep, if_neg e]
  refine ⟨by rw [e1], ?_⟩
  unfold SpAt at h ⊢; rw [e1]; simp; omega
theorem sp_len (c : UInt8) (s : ByteArray) (k : Nat) (hk : k ≤ s.size) : (spFold c (s.data.toList.take k)).1.length ≤ k := by
  obtain ⟨h1, _, _, _⟩ := spFold_facts c (s.data.toList.take k)
  rw [length_take s k hk] at h1; omega
theorem own_below {w wr w1 : World} {B : Nat} {v : Value} {o : Obj} {e : TypeId} {z n : Nat} {xs : List Value} (hb : Below B w wr) (hB : B ≤ wr.heap.size) (hown : wr.ownsRow B e z v n xs) (hg : (wr.alloc o).grownBy w1 v.ownBlock) : Below B w w1 :=
  (hb.alloc hB o).grown hg (by simp; omega) fun k hk => (hown.lt k hk).1

set_option maxHeartbeats 2000000 in
theorem l1Split_any (s : ByteArray) (c : UInt8) (w : World) (hs : s.size ≤ 1048576) :
    Calls Try.prog 138 #[.string s, .int .u8 (c.toNat : Int)] w fun e w' => ∃ v, e = .returned v ∧ w'.ownsRow w.heap.size 9 1 v (splitL c s.data.toList).length ((splitL c s.data.toList).map strV) ∧ Below w.heap.size w w' := by
  obtain ⟨i0, hi, hz0, hz1, hz2⟩ := info_parts infoStr
  go_enter Try.func138, Try.ntmps138
  go_wp2
  go_loopw [5, 6, 7] (fun v fr i wr => ∃ k j : Nat, k ≤ s.size ∧ i = .int .i64 k ∧ fr = .int .i64 j ∧ SpAt c s k j ∧ wr.ownsRow w.heap.size 9 1 v (spFold c (s.data.toList.take k)).1.length ((spFold c (s.data.toList.take k)).1.map strV) ∧ Below w.heap.size w wr)
    (fun _ _ i _ => s.size - (RowKit.intOf i).toNat)
  case atStart => exact ⟨0, 0, Nat.zero_le _, rfl, rfl, spAt_zero c s, World.ownsRow_made w #[] 0 (Nat.le_refl _) (by decide) rfl, (Below.refl _ _).alloc (Nat.le_refl _) _⟩
  case round =>
    obtain ⟨k, j, hk, rfl, rfl, hsp, hown, hbel⟩ := hrel
    have hjk := spAt_le hsp
    have hpl := sp_len c s k hk
    have hB := hbel.size
    have HP := Lib.hid (sp_part hk hsp)
    by_cases hlt : k < s.size
    · by_cases he : s[k] = c
      · have hb : ((s[k].toNat : Int) == (c.toNat : Int)) = true := by rw [byte_eq_int, he]; simp
        have HH := Lib.hid (sp_hit hlt hsp he)
        clear he
        go_wp2_with (at_builtin; refine wpList_append_own _ rfl _ _ 55 rfl w.heap.size 9 i0 (.string ⟨#[]⟩) 1 16 Try.underlying55 hi hz0 hz1 hz2 rfl (by decide) _ _ _ rfl (hown.alloc _) ⟨wr.heap.size, 0, none⟩ 1 1 [.string (s.extract j k)] rfl rfl ?c1 ?c2 ?c3 ?c4 ?c5 ?_)
        case c1 => exact cell_one_new _ _ _
        case c2 => intro u hu; simp at hu; subst hu; rfl
        case c3 => unfold maxLen; omega
        case c4 => omega
        case c5 => simp; omega
        intro v' w1 hown' hgrow _
        have hbel1 := own_below hbel hB hown hgrow
        have hown1 : w1.ownsRow w.heap.size 9 1 v' (spFold c (s.data.toList.take (k + 1))).1.length ((spFold c (s.data.toList.take (k + 1))).1.map strV) := by
          rw [HP.out] at hown'
          rw [HH.out.1]; simpa using hown'
        clear hown' hgrow hown
        go_wp2
        go_roundw
        case rel => exact ⟨k + 1, k + 1, by omega, by go_num, by go_num, HH.out.2, hown1, hbel1⟩
        case measure => simp [RowKit.intOf]; omega
      · have hb : ((s[k].toNat : Int) == (c.toNat : Int)) = false := by rw [byte_eq_int]; simp [he]
        have HH := Lib.hid (sp_miss hlt hsp he)
        clear he
        go_wp2
        go_roundw
        case rel => exact ⟨k + 1, j, by omega, by go_num, by go_num, HH.out.2, by rw [HH.out.1]; exact hown, hbel⟩
        case measure => simp [RowKit.intOf]; omega
    · obtain rfl : k = s.size := by omega
      have hall := List.take_of_length_le (l := s.data.toList) (i := s.size) (by rw [length_list]; exact Nat.le_refl _)
      have HA := Lib.hid hall
      clear hall
      go_wp2_with (at_builtin; refine wpList_append_own _ rfl _ _ 55 rfl w.heap.size 9 i0 (.string ⟨#[]⟩) 1 16 Try.underlying55 hi hz0 hz1 hz2 rfl (by decide) _ _ _ rfl (hown.alloc _) ⟨wr.heap.size, 0, none⟩ 1 1 [.string (s.extract j s.size)] rfl rfl ?c1 ?c2 ?c3 ?c4 ?c5 ?_)
      case c1 => exact cell_one_new _ _ _
      case c2 => intro u hu; simp at hu; subst hu; rfl
      case c3 => unfold maxLen; omega
      case c4 => omega
      case c5 => simp; omega
      intro v' w1 hown' hgrow _
      have hbel1 := own_below hbel hB hown hgrow
      have hown1 : w1.ownsRow w.heap.size 9 1 v' (splitL c s.data.toList).length ((splitL c s.data.toList).map strV) := by
        rw [HP.out, HA.out] at hown'
        unfold splitL; simpa using hown'
      clear hown' hgrow hown
      go_wp2
      go_ret
      exact ⟨_, rfl, hown1, hbel1⟩
end Go.Proofs.Ytbbcjponeiphaaa
