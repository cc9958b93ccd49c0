/-
  CONTRACT of spec.l1Split: a slice of its own memory that holds the parts of a text between bytes; what was in memory stays as it was.
-/
import Derived.Test.YtffcgblionlhhaaRows
import Derived.Test.YtffcgblionlhhaaStr
import Derived.Test.YtffcgblionlhhaaMa
import Derived.WalkLawsBesides
import Derived.LoopTactic
import Derived.Lib.Hide
import Derived.Maps.AppendAt
import Derived.OwnWalk
import Derived.Laws.OwnMore
namespace Go.Proofs.Ytffcgblionlhhaa
open Go.RowKit Go.Sort
open Go.Lib
set_option linter.unusedVariables false

theorem infoStr : (Try.prog.info? 9).map (fun i => (i.zero, i.size, i.bytes)) = some (some (.string ⟨#[]⟩), 1, 16) := by kernel_rfl

def strV (l : List UInt8) : Value := .string ⟨l.toArray⟩

theorem length_take (s : ByteArray) (k : Nat) (h : k ≤ s.size) : (s.data.toList.take k).length = k := by rw [List.length_take, length_list]; omega

/-- what the loop knows at k: where the part that is being gathered begins -/
def SpAt (c : UInt8) (s : ByteArray) (k j : Nat) : Prop := j + (spFold c (s.data.toList.take k)).2.length = k
theorem spAt_zero (c : UInt8) (s : ByteArray) : SpAt c s 0 0 := by simp [SpAt, spFold]
theorem spAt_le {c : UInt8} {s : ByteArray} {k j : Nat} (h : SpAt c s k j) : j ≤ k := by unfold SpAt at h; omega
theorem sp_part {c : UInt8} {s : ByteArray} {k j : Nat} (hk : k ≤ s.size) (h : SpAt c s k j) : Value.string (s.extract j k) = strV (spFold c (s.data.toList.take k)).2 := by
  obtain ⟨_, h2, _, _⟩ := spFold_facts c (s.data.toList.take k)
  rw [length_take s k hk, show k - (spFold c (s.data.toList.take k)).2.length = j by unfold SpAt at h; omega] at h2
  rw [h2, strV, eq_mk (s.extract j k), extract_data, List.drop_take]
theorem sp_hit {c : UInt8} {s : ByteArray} {k j : Nat} (hk : k < s.size) (h : SpAt c s k j) (e : s[k] = c) :
    spFold c (s.data.toList.take (k + 1)) = ((spFold c (s.data.toList.take k)).1 ++ [(spFold c (s.data.toList.take k)).2], []) ∧ SpAt c s (k + 1) (k + 1) := by
  have e1 : spFold c (s.data.toList.take (k + 1)) = ((spFold c (s.data.toList.take k)).1 ++ [(spFold c (s.data.toList.take k)).2], []) := by
    rw [take_snoc s k hk, spFold_snoc, spStep, if_pos e]
  exact ⟨e1, by unfold SpAt; rw [e1]; rfl⟩
theorem sp_miss {c : UInt8} {s : ByteArray} {k j : Nat} (hk : k < s.size) (h : SpAt c s k j) (e : s[k] ≠ c) :
    (spFold c (s.data.toList.take (k + 1))).1 = (spFold c (s.data.toList.take k)).1 ∧ SpAt c s (k + 1) j := by
  have e1 : spFold c (s.data.toList.take (k + 1)) = ((spFold c (s.data.toList.take k)).1, (spFold c (s.data.toList.take k)).2 ++ [s[k]]) := by
    rw [take_snoc s k hk, spFold_snoc, spStep, if_neg e]
  refine ⟨by rw [e1], ?_⟩
  unfold SpAt at h ⊢; rw [e1]; simp; omega
theorem sp_len (c : UInt8) (s : ByteArray) (k : Nat) (hk : k ≤ s.size) : (spFold c (s.data.toList.take k)).1.length ≤ k := by
  obtain ⟨h1, _, _, _⟩ := spFold_facts c (s.data.toList.take k)
  rw [length_take s k hk] at h1; omega
theorem own_below {w wr w1 : World} {B : Nat} {v : Value} {o : Obj} {e : TypeId} {z n : Nat} {xs : List Value} (hb : Below B w wr) (hB : B ≤ wr.heap.size) (hown : wr.ownsRow B e z v n xs) (hg : (wr.alloc o).grownBy w1 v.ownBlock) : Below B w w1 :=
  (hb.alloc hB o).grown hg (by simp; omega) fun k hk => (hown.lt k hk).1

end Go.Proofs.Ytffcgblionlhhaa
