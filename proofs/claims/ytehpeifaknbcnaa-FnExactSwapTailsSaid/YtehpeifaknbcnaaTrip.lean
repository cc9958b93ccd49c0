import Derived.Test.YtehpeifaknbcnaaMk01
import Derived.Test.YtehpeifaknbcnaaInts
import Derived.WalkKit
namespace Go.Proofs.Ytehpeifaknbcnaa
open Go.RowKit Go.ChangeShapes Go.WideShapes Go.ChangeAt Go.Deep Go.Joins
set_option linter.unusedVariables false

structure TripD where
  id : Int
  line : Int
  start : Int
deriving DecidableEq
def tripV (s : TripD) : Value := .agg #[.int .i64 s.id, .int .i64 s.line, .int .i64 s.start]
def TripWf (s : TripD) : Prop := (Lit.int .i64 s.id).wf = true ∧ (Lit.int .i64 s.line).wf = true ∧ (Lit.int .i64 s.start).wf = true

def TripsAt (w : World) (v : Value) (xs : List TripD) : Prop :=
  ∃ a c, v = .slice a xs.length c ∧ xs.length ≤ c ∧ c ≤ maxLen ∧ ∀ k (hk : k < xs.length), ∃ b off, a = some ⟨b, off, none⟩ ∧ b < w.heap.size ∧ w.cell? ⟨b, off + k * 3, none⟩ = some (.int .i64 xs[k].id) ∧ w.cell? ⟨b, off + k * 3 + 1, none⟩ = some (.int .i64 xs[k].line) ∧ w.cell? ⟨b, off + k * 3 + 2, none⟩ = some (.int .i64 xs[k].start)
theorem TripsAt.below {w w' : World} {v : Value} {xs : List TripD} (h : TripsAt w v xs) {B : Nat} (hB : B = w.heap.size) (hb : Below B w w') : TripsAt w' v xs := by
  subst hB
  obtain ⟨a, c, hv, h1, h2, h3⟩ := h
  refine ⟨a, c, hv, h1, h2, fun k hk => ?_⟩
  obtain ⟨b, off, ha, hlt, c0, c1, c2⟩ := h3 k hk
  exact ⟨b, off, ha, Nat.lt_of_lt_of_le hlt hb.size, bkeep hb c0, bkeep hb c1, bkeep hb c2⟩
theorem trips_open {w : World} {v : Value} {xs : List TripD} (h : TripsAt w v xs) : ∃ a c, v = .slice a xs.length c ∧ xs.length ≤ c ∧ c ≤ 9223372036854775807 ∧
    Hid (∀ k (hk : k < xs.length), ∃ b off, a = some ⟨b, off, none⟩ ∧ b < w.heap.size ∧ w.cell? ⟨b, off + k * 3, none⟩ = some (.int .i64 xs[k].id) ∧ w.cell? ⟨b, off + k * 3 + 1, none⟩ = some (.int .i64 xs[k].line) ∧ w.cell? ⟨b, off + k * 3 + 2, none⟩ = some (.int .i64 xs[k].start)) := by
  obtain ⟨a, c, rfl, h1, h2, h3⟩ := h
  exact ⟨a, c, rfl, h1, h2, h3⟩
theorem TripS_open {w : World} {v : Value} {xs : List TripD} (h : TripsAt w v xs) : ∃ a c, v = .slice a xs.length c := by
  obtain ⟨a, c, rfl, _⟩ := h; exact ⟨a, c, rfl⟩

def tripC : List TripD → List Value
  | [] => []
  | s :: xs => .int .i64 s.id :: .int .i64 s.line :: .int .i64 s.start :: tripC xs
theorem tripC_len : ∀ xs : List TripD, (tripC xs).length = xs.length * 3
  | [] => rfl
  | s :: xs => by simp only [tripC, List.length_cons]; rw [tripC_len xs]; omega
theorem tripC_get0 : ∀ (xs : List TripD) (k : Nat) (hk : k < xs.length), (tripC xs)[k * 3]? = some (.int .i64 xs[k].id)
  | s :: xs, 0, _ => rfl
  | s :: xs, k + 1, hk => by
    have := tripC_get0 xs k (by simpa using hk)
    rw [show (k + 1) * 3 = k * 3 + 1 + 1 + 1 by omega]
    simpa [tripC] using this
theorem tripC_get1 : ∀ (xs : List TripD) (k : Nat) (hk : k < xs.length), (tripC xs)[k * 3 + 1]? = some (.int .i64 xs[k].line)
  | s :: xs, 0, _ => rfl
  | s :: xs, k + 1, hk => by
    have := tripC_get1 xs k (by simpa using hk)
    rw [show (k + 1) * 3 + 1 = k * 3 + 1 + 1 + 1 + 1 by omega]
    simpa [tripC] using this
theorem tripC_get2 : ∀ (xs : List TripD) (k : Nat) (hk : k < xs.length), (tripC xs)[k * 3 + 2]? = some (.int .i64 xs[k].start)
  | s :: xs, 0, _ => rfl
  | s :: xs, k + 1, hk => by
    have := tripC_get2 xs k (by simpa using hk)
    rw [show (k + 1) * 3 + 2 = k * 3 + 2 + 1 + 1 + 1 by omega]
    simpa [tripC] using this
theorem tripC_set : ∀ (xs : List TripD) (k : Nat) (s : TripD) (hk : k < xs.length), (((tripC xs).set (k * 3) (.int .i64 s.id)).set (k * 3 + 1) (.int .i64 s.line)).set (k * 3 + 2) (.int .i64 s.start) = tripC (xs.set k s)
  | x :: xs, 0, s, _ => rfl
  | x :: xs, k + 1, s, hk => by
    have := tripC_set xs k s (by simpa using hk)
    rw [show (k + 1) * 3 = k * 3 + 1 + 1 + 1 by omega, show k * 3 + 1 + 1 + 1 + 1 = k * 3 + 1 + 1 + 1 + 1 from rfl, show k * 3 + 1 + 1 + 1 + 2 = k * 3 + 2 + 1 + 1 + 1 by omega]
    simpa [tripC] using this
def TripsIn (l u : Nat) (w : World) (v : Value) (xs : List TripD) : Prop := w.ownsRow l 89 3 v xs.length (tripC xs) ∧ ∀ g, v.ownBlock = some g → g < u
theorem tripsAt_own {w : World} {B : Nat} {e : TypeId} {v : Value} {xs : List TripD} (h : w.ownsRow B e 3 v xs.length (tripC xs)) : TripsAt w v xs := by
  have hc := fun g hg => h.cells (g := g) hg
  have hl := h.lt
  obtain ⟨hn, h2⟩ := h
  rcases h2 with ⟨hv, h0⟩ | ⟨g, cap, cur, hv, hg, hh, h1, h3, h4, h5⟩
  · have : xs = [] := List.eq_nil_of_length_eq_zero h0
    subst this
    exact ⟨none, 0, hv, Nat.le_refl _, by decide, fun k hk => by simp at hk⟩
  · refine ⟨_, cap, hv, h1, h3, fun k hk => ⟨g, 0, rfl, (hl g (by rw [hv]; rfl)).2, ?_, ?_, ?_⟩⟩
    · have := hc g (by rw [hv]; rfl) (k * 3) _ (tripC_get0 xs k hk)
      rw [addr_add] at this; exact this
    · have := hc g (by rw [hv]; rfl) (k * 3 + 1) _ (tripC_get1 xs k hk)
      rw [addr_add] at this; exact this
    · have := hc g (by rw [hv]; rfl) (k * 3 + 2) _ (tripC_get2 xs k hk)
      rw [addr_add] at this; exact this
theorem TripsIn.at {l u : Nat} {w : World} {v : Value} {xs : List TripD} (h : TripsIn l u w v xs) : TripsAt w v xs := tripsAt_own h.1
theorem TripsIn.lo {l u : Nat} {w : World} {v : Value} {xs : List TripD} (h : TripsIn l u w v xs) (g : Nat) (hg : v.ownBlock = some g) : l ≤ g := (h.1.lt g hg).1
theorem TripsIn.later {l u : Nat} {w w' : World} {v : Value} {xs : List TripD} (h : TripsIn l u w v xs) (hb : Below w.heap.size w w') : TripsIn l u w' v xs := ⟨own_later h.1 hb, h.2⟩
theorem TripsIn.out {l u lo hi : Nat} {w w' : World} {v : Value} {xs : List TripD} (h : TripsIn l u w v xs) (ho : Out lo hi w w') (hs : u ≤ lo ∨ hi ≤ l) : TripsIn l u w' v xs :=
  ⟨own_out h.1 ho (fun g hg => by have := h.2 g hg; have := h.lo g hg; omega), h.2⟩
theorem TripsIn.mk {l : Nat} {w : World} {v : Value} {xs : List TripD} (h : w.ownsRow l 89 3 v xs.length (tripC xs)) : TripsIn l w.heap.size w v xs := ⟨h, fun g hg => (h.lt g hg).2⟩
theorem TripsIn.base {l l' u u' : Nat} {w : World} {v : Value} {xs : List TripD} (h : TripsIn l u w v xs) (hl : l' ≤ l) (hu : u ≤ u') : TripsIn l' u' w v xs := ⟨own_base h.1 hl, fun g hg => Nat.lt_of_lt_of_le (h.2 g hg) hu⟩
theorem TripsIn.nil (l u : Nat) (w : World) : TripsIn l u w (.slice none 0 0) [] := ⟨World.ownsRow_nil _ _ _ _, fun g hg => by simp [Value.ownBlock] at hg⟩

section
variable {H : Type} {enc : TypeId × Value → H} {P : Program} {w : World} {base : Nat} {spare : Nat → Bool} {held : Bool}

theorem trips_trod {t e : TypeId} {f0 f1 f2 : Field} {n : Nat} {v : Value} {x : DataW H × List MemPlace} (ht : P.underlying t = some (.slice e)) (he : P.underlying e = some (.struct #[f0, f1, f2]))
    (hone : oneCellFields P #[f0, f1, f2] = true) (hc : P.cellsOf e = 3) (h0 : P.underlying f0.type = some (.int .i64)) (h1 : P.underlying f1.type = some (.int .i64)) (h2 : P.underlying f2.type = some (.int .i64))
    (h : DataW.trod enc P w base spare held n t [v] = some x) : ∃ ls : List TripD, TripsAt w v ls ∧ ∀ l ∈ ls, TripWf l := by
  rcases open_slice ht h with ⟨hcs, _⟩ | ⟨a, len, cap, m, n', D, Pl, hcs, _, hl, hm, hmm, _, hel⟩
  · simp at hcs; subst hcs
    exact ⟨[], ⟨none, 0, rfl, Nat.le_refl _, by decide, fun k hk => by simp at hk⟩, fun x hx => by simp at hx⟩
  · simp at hcs; subst hcs
    have hml : len ≤ m := by rw [hmm]; split <;> omega
    have hsp : ∀ k, k < len → a.spot = none := fun k hk => by
      obtain ⟨cs', hcc, htt⟩ := hel 0 (by omega)
      obtain ⟨_, hcl, hat⟩ := World.cells?_some hcc
      have := hat 0 (by omega)
      have hq : cs'[0]? = some (cs'[0]'(by omega)) := List.getElem?_eq_getElem _
      rw [hq] at this
      have := World.cell?_spot this
      simpa [Addr.add] using this
    have each : ∀ k, k < len → ∃ l : TripD, (w.cell? ⟨a.block, a.off + k * 3, none⟩ = some (.int .i64 l.id) ∧ w.cell? ⟨a.block, a.off + k * 3 + 1, none⟩ = some (.int .i64 l.line) ∧ w.cell? ⟨a.block, a.off + k * 3 + 2, none⟩ = some (.int .i64 l.start)) ∧ TripWf l := fun k hk => by
      obtain ⟨cs', hcc, htt⟩ := hel k (by omega)
      obtain ⟨_, hcl, hat⟩ := World.cells?_some hcc
      obtain ⟨ys, n2, _, _, _, hylen, hg⟩ := DataW.trod_struct he htt
      have hs := hsp k hk
      obtain ⟨b, off, sp⟩ := a
      simp only at hs
      subst hs
      rw [hc] at hcl hat
      match cs', hcl with
      | [c0, c1, c2], _ =>
        obtain ⟨o0, k0⟩ := hone_of hone 0 f0 rfl
        obtain ⟨o1, k1⟩ := hone_of hone 1 f1 rfl
        obtain ⟨o2, k2⟩ := hone_of hone 2 f2 rfl
        have g0 := hg 0 f0 rfl
        have g1 := hg 1 f1 rfl
        have g2 := hg 2 f2 rfl
        rw [o0, k0] at g0
        rw [o1, k1] at g1
        rw [o2, k2] at g2
        simp only [List.drop_zero, List.drop_succ_cons, List.take_succ_cons, List.take_zero] at g0 g1 g2
        have hy : ys.length = 3 := hylen
        rw [List.getElem?_eq_getElem (by omega)] at g0 g1 g2
        obtain ⟨p, hp, _, hpw⟩ := DataW.trod_int h0 g0
        obtain ⟨q, hq, _, hqw⟩ := DataW.trod_int h1 g1
        obtain ⟨r, hr, _, hrw⟩ := DataW.trod_int h2 g2
        simp at hp hq hr
        subst hp hq hr
        refine ⟨⟨p, q, r⟩, ⟨?_, ?_, ?_⟩, hpw, hqw, hrw⟩
        · have := hat 0 (by omega); rw [addr_add, addr_add] at this; simpa [hc] using this
        · have := hat 1 (by omega); rw [addr_add, addr_add] at this; simpa [hc] using this
        · have := hat 2 (by omega); rw [addr_add, addr_add] at this; simpa [hc] using this
    have fam : ∃ F : Nat → TripD, ∀ k, k < len → (w.cell? ⟨a.block, a.off + k * 3, none⟩ = some (.int .i64 (F k).id) ∧ w.cell? ⟨a.block, a.off + k * 3 + 1, none⟩ = some (.int .i64 (F k).line) ∧ w.cell? ⟨a.block, a.off + k * 3 + 2, none⟩ = some (.int .i64 (F k).start)) ∧ TripWf (F k) :=
      ⟨fun k => if hk : k < len then Classical.choose (each k hk) else ⟨0, 0, 0⟩, fun k hk => by simp only [dif_pos hk]; exact Classical.choose_spec (each k hk)⟩
    obtain ⟨F, hF⟩ := fam
    refine ⟨(List.range len).map F, ⟨some a, cap, by simp, by simp; omega, hm, fun k hk => ?_⟩, fun l hl => ?_⟩
    · have hk' : k < len := by simpa using hk
      have e : ((List.range len).map F)[k] = F k := by simp
      have hs := hsp k hk'
      have h3 := hF k hk'
      rw [e]
      obtain ⟨b, off, sp⟩ := a
      simp only at hs
      subst hs
      exact ⟨b, off, rfl, World.block_lt_of_cell? w _ h3.1.1, h3.1.1, h3.1.2.1, h3.1.2.2⟩
    · obtain ⟨k, hk, rfl⟩ := List.mem_map.1 hl
      exact (hF k (List.mem_range.1 hk)).2
end
end Go.Proofs.Ytehpeifaknbcnaa
