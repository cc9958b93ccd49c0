import Derived.Test.YtehpeifaknbcnaaMk01
import Derived.Deep.Slices
import Derived.Deep.Fields
import Derived.Lib.SmallJoins
import Derived.ChangeSame
import Derived.Test.YtehpeifaknbcnaaInts
namespace Go.Proofs.Ytehpeifaknbcnaa
open Go.RowKit Go.ChangeShapes Go.WideShapes Go.ChangeAt Go.Deep Go.Joins

def LineAt (w : World) (b o : Nat) (l : LineD) : Prop :=
  ∃ sv rv, w.cell? ⟨b, o, none⟩ = some (.string l.name) ∧ w.cell? ⟨b, o + 1, none⟩ = some sv ∧ w.cell? ⟨b, o + 2, none⟩ = some rv ∧ RowAt w sv (ints l.stops) ∧ RowAt w rv (ints l.runs)

def LineV (w : World) (v : Value) (l : LineD) : Prop := ∃ sv rv, v = .agg #[.string l.name, sv, rv] ∧ RowAt w sv (ints l.stops) ∧ RowAt w rv (ints l.runs)
def LinesAt (w : World) (v : Value) (ls : List LineD) : Prop :=
  ∃ a c, v = .slice a ls.length c ∧ ls.length ≤ c ∧ c ≤ maxLen ∧ ∀ k l, ls[k]? = some l → ∃ b off, a = some ⟨b, off, none⟩ ∧ b < w.heap.size ∧ LineAt w b (off + k * 3) l
def NetAt (w : World) (v : Value) (n : NetD) : Prop := ∃ s l, v = .agg #[s, l] ∧ RowAt w s (strs n.stops) ∧ LinesAt w l n.lines

theorem LineAt.below {w w' : World} {b o : Nat} {l : LineD} (h : LineAt w b o l) {B : Nat} (hB : B = w.heap.size) (hb : Below B w w') : LineAt w' b o l := by
  obtain ⟨sv, rv, h1, h2, h3, h4, h5⟩ := h
  have hlt := World.block_lt_of_cell? w _ h1
  subst hB
  exact ⟨sv, rv, by rw [hb.cell (p := ⟨b, o, none⟩) hlt]; exact h1, by rw [hb.cell (p := ⟨b, o + 1, none⟩) hlt]; exact h2, by rw [hb.cell (p := ⟨b, o + 2, none⟩) hlt]; exact h3, h4.below rfl hb, h5.below rfl hb⟩
theorem LineV.below {w w' : World} {v : Value} {l : LineD} (h : LineV w v l) {B : Nat} (hB : B = w.heap.size) (hb : Below B w w') : LineV w' v l := by
  obtain ⟨sv, rv, h1, h4, h5⟩ := h
  exact ⟨sv, rv, h1, h4.below hB hb, h5.below hB hb⟩
theorem LinesAt.below {w w' : World} {v : Value} {ls : List LineD} (h : LinesAt w v ls) {B : Nat} (hB : B = w.heap.size) (hb : Below B w w') : LinesAt w' v ls := by
  obtain ⟨a, c, hv, h1, h2, h3⟩ := h
  refine ⟨a, c, hv, h1, h2, fun k l hl => ?_⟩
  obtain ⟨b, off, ha, hlt, hc⟩ := h3 k l hl
  exact ⟨b, off, ha, Nat.lt_of_lt_of_le hlt (by subst hB; exact hb.size), hc.below hB hb⟩
theorem NetAt.below {w w' : World} {v : Value} {n : NetD} (h : NetAt w v n) {B : Nat} (hB : B = w.heap.size) (hb : Below B w w') : NetAt w' v n := by
  obtain ⟨s, l, hv, h1, h2⟩ := h
  exact ⟨s, l, hv, h1.below hB hb, h2.below hB hb⟩

def LineFits (l : LineD) : Prop := l.name.size ≤ maxLen ∧ (∀ z ∈ l.stops, (Lit.int .i64 z).wf = true) ∧ ∀ z ∈ l.runs, (Lit.int .i64 z).wf = true
def NetFits (n : NetD) : Prop := (∀ s ∈ n.stops, s.size ≤ maxLen) ∧ ∀ l ∈ n.lines, LineFits l

section
variable {H : Type} {enc : TypeId × Value → H} {P : Program} {w : World} {base : Nat} {spare : Nat → Bool} {held : Bool}

theorem lines_trod {t e si : TypeId} {f0 f1 f2 : Field} {n : Nat} {v : Value} {x : DataW H × List MemPlace} (ht : P.underlying t = some (.slice e)) (he : P.underlying e = some (.struct #[f0, f1, f2]))
    (hone : oneCellFields P #[f0, f1, f2] = true) (hc : P.cellsOf e = 3) (h0 : P.underlying f0.type = some .string) (h1 : P.underlying f1.type = some (.slice si)) (h2 : P.underlying f2.type = some (.slice si)) (hi : P.underlying si = some (.int .i64)) (hic : P.cellsOf si = 1)
    (h : DataW.trod enc P w base spare held n t [v] = some x) : ∃ ls : List LineD, LinesAt w v ls ∧ ∀ l ∈ ls, LineFits l := by
  rcases open_slice ht h with ⟨hcs, _⟩ | ⟨a, len, cap, m, n', D, Pl, hcs, _, hl, hm, hmm, _, hel⟩
  · simp at hcs; subst hcs
    exact ⟨[], ⟨none, 0, rfl, Nat.le_refl _, by decide, fun k u hu => by simp at hu⟩, fun x hx => by simp at hx⟩
  · simp at hcs; subst hcs
    have hml : len ≤ m := by rw [hmm]; split <;> omega
    have hsp : ∀ k, k < len → a.spot = none := fun k hk => by
      obtain ⟨cs', hcc, htt⟩ := hel 0 (by omega)
      obtain ⟨_, hcl, hat⟩ := World.cells?_some hcc
      have := hat 0 (by omega)
      have hq : cs'[0]? = some (cs'[0]'(by omega)) := List.getElem?_eq_getElem _
      rw [hq] at this
      have := World.cell?_spot this
      simpa [Addr.add] using this
    have each : ∀ k, k < len → ∃ l : LineD, LineAt w a.block (a.off + k * 3) l ∧ LineFits l := fun k hk => by
      obtain ⟨cs', hcc, htt⟩ := hel k (by omega)
      obtain ⟨_, hcl, hat⟩ := World.cells?_some hcc
      obtain ⟨ys, n2, _, _, _, hylen, hg⟩ := DataW.trod_struct he htt
      have hs := hsp k hk
      obtain ⟨b, off, sp⟩ := a
      simp only at hs
      subst hs
      rw [hc] at hcl hat
      match cs', hcl with
      | [c0, c1, c2], _ =>
        obtain ⟨o0, k0⟩ := hone_of hone 0 f0 rfl
        obtain ⟨o1, k1⟩ := hone_of hone 1 f1 rfl
        obtain ⟨o2, k2⟩ := hone_of hone 2 f2 rfl
        have g0 := hg 0 f0 rfl
        have g1 := hg 1 f1 rfl
        have g2 := hg 2 f2 rfl
        rw [o0, k0] at g0
        rw [o1, k1] at g1
        rw [o2, k2] at g2
        simp only [List.drop_zero, List.drop_succ_cons, List.take_succ_cons, List.take_zero] at g0 g1 g2
        have hy : ys.length = 3 := hylen
        rw [List.getElem?_eq_getElem (by omega)] at g0 g1 g2
        obtain ⟨s, hs0, _, hsz⟩ := DataW.trod_string h0 g0
        obtain ⟨zs, hz, hzw⟩ := ints_trod h1 hi hic g1
        obtain ⟨rs, hr, hrw⟩ := ints_trod h2 hi hic g2
        simp at hs0
        subst hs0
        refine ⟨⟨s, zs, rs⟩, ⟨c1, c2, ?_, ?_, ?_, hz, hr⟩, hsz, hzw, hrw⟩
        · have := hat 0 (by omega); rw [addr_add, addr_add] at this; simpa [hc] using this
        · have := hat 1 (by omega); rw [addr_add, addr_add] at this; simpa [hc] using this
        · have := hat 2 (by omega); rw [addr_add, addr_add] at this; simpa [hc] using this
    have fam : ∃ F : Nat → LineD, ∀ k, k < len → LineAt w a.block (a.off + k * 3) (F k) ∧ LineFits (F k) :=
      ⟨fun k => if hk : k < len then Classical.choose (each k hk) else ⟨⟨#[]⟩, [], []⟩, fun k hk => by simp only [dif_pos hk]; exact Classical.choose_spec (each k hk)⟩
    obtain ⟨F, hF⟩ := fam
    refine ⟨(List.range len).map F, ⟨some a, cap, by simp, by simp; omega, hm, fun k l hl => ?_⟩, fun l hl => ?_⟩
    · rw [List.getElem?_map] at hl
      have hk : k < len := by
        by_cases hk : k < len
        · exact hk
        · rw [List.getElem?_eq_none (by simp; omega)] at hl; simp at hl
      rw [List.getElem?_range hk] at hl
      have hl' : F k = l := by simpa using hl
      subst hl'
      have hs := hsp k hk
      have h3 := hF k hk
      obtain ⟨b, off, sp⟩ := a
      simp only at hs
      subst hs
      obtain ⟨_, _, q, _⟩ := h3.1
      exact ⟨b, off, rfl, World.block_lt_of_cell? w _ q, h3.1⟩
    · obtain ⟨k, hk, rfl⟩ := List.mem_map.1 hl
      exact (hF k (List.mem_range.1 hk)).2

end
end Go.Proofs.Ytehpeifaknbcnaa
