import Derived.Test.YtemejcbilhcebaaFitP
import Derived.Test.YtemejcbilhcebaaCalMark
import Derived.Test.YtemejcbilhcebaaCalGood
import Derived.Maps.AppendAt
namespace Go.Proofs.Ytemejcbilhcebaa
open Go.RowKit
set_option linter.unusedVariables false

structure FitBox (w : World) (l b : Nat) (c : CalD) (av rv : Value) : Prop where
  box : CalBox w b c av rv
  free : ∀ o, w.frozen? ⟨b, o, none⟩ = false
  adds : w.ownsRow l 3 1 av c.added.length (ints c.added)
  rems : w.ownsRow l 3 1 rv c.removed.length (ints c.removed)
  apart : av.ownBlock = none ∨ av.ownBlock ≠ rv.ownBlock
  offA : av.ownBlock ≠ some b
  offR : rv.ownBlock ≠ some b
theorem FitBox.lt {w : World} {l b : Nat} {c : CalD} {av rv : Value} (h : FitBox w l b c av rv) : b < w.heap.size := h.box.lt
theorem FitBox.keep {w w' : World} {l b : Nat} {c : CalD} {av rv : Value} (h : FitBox w l b c av rv) (hb : Below w.heap.size w w') : FitBox w' l b c av rv :=
  ⟨h.box.keep hb, fun o => fkeep hb h.lt (h.free o), own_later h.adds hb, own_later h.rems hb, h.apart, h.offA, h.offR⟩
theorem FitBox.calAt {w : World} {l b : Nat} {c : CalD} {av rv : Value} (h : FitBox w l b c av rv) : CalAt w (.agg #[.int .i64 c.frm, .int .i64 c.too, .int .i64 c.wd, av, rv]) c :=
  ⟨av, rv, rfl, rowAt_own h.adds, rowAt_own h.rems⟩
theorem FitBox.calIn {w : World} {l b : Nat} {c : CalD} {av rv : Value} (h : FitBox w l b c av rv) : CalIn l w.heap.size w (.agg #[.int .i64 c.frm, .int .i64 c.too, .int .i64 c.wd, av, rv]) c :=
  ⟨av, rv, rfl, IntsIn.mk h.adds, IntsIn.mk h.rems, h.apart⟩
theorem FitBox.mid {w w4 : World} {l b : Nat} {c : CalD} {av rv : Value} {row : Option Nat} (o : Obj) (h : FitBox w l b c av rv) (hg : (w.alloc o).grownBy w4 row) (hr : row ≠ some b) :
    CalBox w4 b c av rv ∧ (∀ o, w4.frozen? ⟨b, o, none⟩ = false) := by
  obtain ⟨c0, c1, c2, c3, c4⟩ := h.box
  have hl := h.lt
  have hne : some b ≠ row := fun e => hr e.symm
  refine ⟨⟨hg.cell (acell c0 _) hne, hg.cell (acell c1 _) hne, hg.cell (acell c2 _) hne, hg.cell (acell c3 _) hne, hg.cell (acell c4 _) hne⟩, fun i => ?_⟩
  rw [World.frozen?_of_block (w := w.alloc o) (hg.block b (by simp; omega) hne)]
  exact fkeep ((Below.refl _ _).alloc (Nat.le_refl _) o) hl (h.free i)
theorem FitBox.addA {w w4 : World} {l b : Nat} {c : CalD} {av rv v' : Value} {x : Int} {o : Obj} (h : FitBox w l b c av rv) (hw : l ≤ w.heap.size) (hown : w4.ownsRow l 3 1 v' (c.added.length + 1) (ints c.added ++ [.int .i64 x]))
    (hg : (w.alloc o).grownBy w4 av.ownBlock) (hloc : v'.ownBlock = av.ownBlock ∨ v'.ownBlock = some (w.heap.size + 1)) :
    FitBox (w4.setCell ⟨b, 3, none⟩ v') l b ⟨c.frm, c.too, c.wd, c.added ++ [x], c.removed⟩ v' rv := by
  obtain ⟨⟨c0, c1, c2, c3, c4⟩, hf⟩ := h.mid o hg h.offA
  have hl := h.lt
  have hb' : v'.ownBlock ≠ some b := by
    rcases hloc with e | e
    · rw [e]; exact h.offA
    · rw [e]; simp; omega
  have hrl := fun g hg => (h.rems.lt g hg).2
  refine ⟨⟨?_, ?_, ?_, ?_, ?_⟩, fun i => by simpa using hf i, ?_, ?_, ?_, hb', h.offR⟩
  · rw [set_other (by decide)]; exact c0
  · rw [set_other (by decide)]; exact c1
  · rw [set_other (by decide)]; exact c2
  · exact set_same c3
  · rw [set_other (by decide)]; exact c4
  · have := own_other hown (p := ⟨b, 3, none⟩) hb' v'
    simpa [ints] using this
  · refine own_other ?_ h.offR _
    refine own_grown (own_later h.rems ((Below.refl _ _).alloc (Nat.le_refl _) o)) hg ?_
    rcases h.apart with e | e
    · rw [e]
      by_cases hn : rv.ownBlock = none
      · exact .inl hn
      · exact .inr fun e => hn e.symm
    · exact .inr e
  · by_cases hn : v'.ownBlock = none
    · exact .inl hn
    · refine .inr ?_
      rcases hloc with e | e
      · rcases h.apart with e' | e'
        · exact absurd (e.trans e') hn
        · rw [e]; exact e'
      · rw [e]; intro e'
        have := hrl _ e'.symm
        omega
theorem FitBox.addR {w w4 : World} {l b : Nat} {c : CalD} {av rv v' : Value} {x : Int} {o : Obj} (h : FitBox w l b c av rv) (hw : l ≤ w.heap.size) (hown : w4.ownsRow l 3 1 v' (c.removed.length + 1) (ints c.removed ++ [.int .i64 x]))
    (hg : (w.alloc o).grownBy w4 rv.ownBlock) (hloc : v'.ownBlock = rv.ownBlock ∨ v'.ownBlock = some (w.heap.size + 1)) :
    FitBox (w4.setCell ⟨b, 4, none⟩ v') l b ⟨c.frm, c.too, c.wd, c.added, c.removed ++ [x]⟩ av v' := by
  obtain ⟨⟨c0, c1, c2, c3, c4⟩, hf⟩ := h.mid o hg h.offR
  have hl := h.lt
  have hb' : v'.ownBlock ≠ some b := by
    rcases hloc with e | e
    · rw [e]; exact h.offR
    · rw [e]; simp; omega
  have hal := fun g hg => (h.adds.lt g hg).2
  refine ⟨⟨?_, ?_, ?_, ?_, ?_⟩, fun i => by simpa using hf i, ?_, ?_, ?_, h.offA, hb'⟩
  · rw [set_other (by decide)]; exact c0
  · rw [set_other (by decide)]; exact c1
  · rw [set_other (by decide)]; exact c2
  · rw [set_other (by decide)]; exact c3
  · exact set_same c4
  · refine own_other ?_ h.offA _
    refine own_grown (own_later h.adds ((Below.refl _ _).alloc (Nat.le_refl _) o)) hg ?_
    rcases h.apart with e | e
    · exact .inl e
    · exact .inr e.symm
  · have := own_other hown (p := ⟨b, 4, none⟩) hb' v'
    simpa [ints] using this
  · by_cases hn : av.ownBlock = none
    · exact .inl hn
    · refine .inr ?_
      rcases hloc with e | e
      · rcases h.apart with e' | e'
        · exact absurd e' hn
        · rw [e]; exact e'
      · rw [e]; intro e'
        have := hal _ e'
        omega
theorem fitBox_below {W w w4 : World} {B b i : Nat} {o : Obj} {row : Option Nat} (hW : Below B W w) (hB : B ≤ w.heap.size) (hg : (w.alloc o).grownBy w4 row) (hr : ∀ g, row = some g → B ≤ g) (hb : B ≤ b) (u : Value) :
    Below B W (w4.setCell ⟨b, i, none⟩ u) := ((hW.alloc hB _).grown hg (by simp; omega) hr).setCell (p := ⟨b, i, none⟩) hb _

theorem fitTo_add {lo hi : Int} {days : List Int} {k : Nat} (h : inB (lo + (k : Int)) days = true) (h' : wdB (fitW lo hi days) (lo + (k : Int)) = false) :
    fitTo lo hi days (k + 1) = ⟨(fitTo lo hi days k).frm, (fitTo lo hi days k).too, (fitTo lo hi days k).wd, (fitTo lo hi days k).added ++ [lo + (k : Int)], (fitTo lo hi days k).removed⟩ := by
  simp only [fitTo]
  rw [dayRow_yes (p := plusB days (fitW lo hi days)) (by simp [plusB, h, h']), dayRow_no (p := minusB days (fitW lo hi days)) (by simp [minusB, h])]
theorem fitTo_rem {lo hi : Int} {days : List Int} {k : Nat} (h : inB (lo + (k : Int)) days = false) (h' : wdB (fitW lo hi days) (lo + (k : Int)) = true) :
    fitTo lo hi days (k + 1) = ⟨(fitTo lo hi days k).frm, (fitTo lo hi days k).too, (fitTo lo hi days k).wd, (fitTo lo hi days k).added, (fitTo lo hi days k).removed ++ [lo + (k : Int)]⟩ := by
  simp only [fitTo]
  rw [dayRow_no (p := plusB days (fitW lo hi days)) (by simp [plusB, h]), dayRow_yes (p := minusB days (fitW lo hi days)) (by simp [minusB, h, h'])]
theorem fitTo_same {lo hi : Int} {days : List Int} {k : Nat} (h : inB (lo + (k : Int)) days = wdB (fitW lo hi days) (lo + (k : Int))) : fitTo lo hi days (k + 1) = fitTo lo hi days k := by
  simp only [fitTo]
  rw [dayRow_no (p := plusB days (fitW lo hi days)) (by simp [plusB, h]), dayRow_no (p := minusB days (fitW lo hi days)) (by simp [minusB, h])]
theorem fit_one (w : World) (x : Int) {t : TypeId} : ∀ u ∈ [Value.int .i64 x], u.oneCell' = true := by intro u hu; simp at hu; subst hu; rfl
end Go.Proofs.Ytemejcbilhcebaa
