import Derived.Test.YtemejcbilhcebaaSlices
import Derived.Test.YtemejcbilhcebaaMk04
import Derived.WalkKit
namespace Go.Proofs.Ytemejcbilhcebaa
open Go.RowKit Go.ChangeShapes Go.WideShapes Go.ChangeAt Go.Deep Go.Joins
set_option linter.unusedVariables false

structure WlkD where
  a : Int
  b : Int
  m : Int
deriving DecidableEq
def wlkV (s : WlkD) : Value := .agg #[.int .i64 s.a, .int .i64 s.b, .int .i64 s.m]
def WalkWf (s : WlkD) : Prop := (Lit.int .i64 s.a).wf = true ∧ (Lit.int .i64 s.b).wf = true ∧ (Lit.int .i64 s.m).wf = true

def WalksAt (w : World) (v : Value) (xs : List WlkD) : Prop :=
  ∃ a c, v = .slice a xs.length c ∧ xs.length ≤ c ∧ c ≤ maxLen ∧ ∀ k (hk : k < xs.length), ∃ b off, a = some ⟨b, off, none⟩ ∧ b < w.heap.size ∧ w.cell? ⟨b, off + k * 3, none⟩ = some (.int .i64 xs[k].a) ∧ w.cell? ⟨b, off + k * 3 + 1, none⟩ = some (.int .i64 xs[k].b) ∧ w.cell? ⟨b, off + k * 3 + 2, none⟩ = some (.int .i64 xs[k].m)
theorem WalksAt.below {w w' : World} {v : Value} {xs : List WlkD} (h : WalksAt w v xs) {B : Nat} (hB : B = w.heap.size) (hb : Below B w w') : WalksAt w' v xs := by
  subst hB
  obtain ⟨a, c, hv, h1, h2, h3⟩ := h
  refine ⟨a, c, hv, h1, h2, fun k hk => ?_⟩
  obtain ⟨b, off, ha, hlt, c0, c1, c2⟩ := h3 k hk
  exact ⟨b, off, ha, Nat.lt_of_lt_of_le hlt hb.size, bkeep hb c0, bkeep hb c1, bkeep hb c2⟩
theorem walks_open {w : World} {v : Value} {xs : List WlkD} (h : WalksAt w v xs) : ∃ a c, v = .slice a xs.length c ∧ xs.length ≤ c ∧ c ≤ 9223372036854775807 ∧
    Hid (∀ k (hk : k < xs.length), ∃ b off, a = some ⟨b, off, none⟩ ∧ b < w.heap.size ∧ w.cell? ⟨b, off + k * 3, none⟩ = some (.int .i64 xs[k].a) ∧ w.cell? ⟨b, off + k * 3 + 1, none⟩ = some (.int .i64 xs[k].b) ∧ w.cell? ⟨b, off + k * 3 + 2, none⟩ = some (.int .i64 xs[k].m)) := by
  obtain ⟨a, c, rfl, h1, h2, h3⟩ := h
  exact ⟨a, c, rfl, h1, h2, h3⟩
theorem WalkS_open {w : World} {v : Value} {xs : List WlkD} (h : WalksAt w v xs) : ∃ a c, v = .slice a xs.length c := by
  obtain ⟨a, c, rfl, _⟩ := h; exact ⟨a, c, rfl⟩

def wlkC : List WlkD → List Value
  | [] => []
  | s :: xs => .int .i64 s.a :: .int .i64 s.b :: .int .i64 s.m :: wlkC xs
theorem wlkC_append : ∀ xs ys : List WlkD, wlkC (xs ++ ys) = wlkC xs ++ wlkC ys
  | [], ys => rfl
  | s :: xs, ys => by simp only [wlkC, List.cons_append]; rw [wlkC_append xs ys]
theorem wlkC_get0 : ∀ (xs : List WlkD) (k : Nat) (hk : k < xs.length), (wlkC xs)[k * 3]? = some (.int .i64 xs[k].a)
  | s :: xs, 0, _ => rfl
  | s :: xs, k + 1, hk => by
    have := wlkC_get0 xs k (by simpa using hk)
    rw [show (k + 1) * 3 = k * 3 + 1 + 1 + 1 by omega]
    simpa [wlkC] using this
theorem wlkC_get1 : ∀ (xs : List WlkD) (k : Nat) (hk : k < xs.length), (wlkC xs)[k * 3 + 1]? = some (.int .i64 xs[k].b)
  | s :: xs, 0, _ => rfl
  | s :: xs, k + 1, hk => by
    have := wlkC_get1 xs k (by simpa using hk)
    rw [show (k + 1) * 3 + 1 = k * 3 + 1 + 1 + 1 + 1 by omega]
    simpa [wlkC] using this
theorem wlkC_get2 : ∀ (xs : List WlkD) (k : Nat) (hk : k < xs.length), (wlkC xs)[k * 3 + 2]? = some (.int .i64 xs[k].m)
  | s :: xs, 0, _ => rfl
  | s :: xs, k + 1, hk => by
    have := wlkC_get2 xs k (by simpa using hk)
    rw [show (k + 1) * 3 + 2 = k * 3 + 2 + 1 + 1 + 1 by omega]
    simpa [wlkC] using this
theorem wlkC_one : ∀ (w : World) (s : WlkD) (t : TypeId), ∀ j x, (wlkC [s])[j]? = some x → (w.alloc (.cells #[.int .i64 s.a, .int .i64 s.b, .int .i64 s.m] t)).cell? ((⟨w.heap.size, 0, none⟩ : Addr).add j) = some x := by
  intro w s t j x hx
  rw [addr_add, Nat.zero_add]
  match j, hx with
  | 0, hx => simp [wlkC] at hx; subst hx; simp
  | 1, hx => simp [wlkC] at hx; subst hx; simp
  | 2, hx => simp [wlkC] at hx; subst hx; simp
  | j + 3, hx => simp [wlkC] at hx
theorem wlkC_cells (xs : List WlkD) : ∀ u ∈ wlkC xs, u.oneCell' = true := by
  induction xs with
  | nil => simp [wlkC]
  | cons s xs ih =>
    intro u hu
    simp only [wlkC, List.mem_cons] at hu
    rcases hu with rfl | rfl | rfl | hu
    · rfl
    · rfl
    · rfl
    · exact ih u hu

def WalksIn (l u : Nat) (w : World) (v : Value) (xs : List WlkD) : Prop := w.ownsRow l 67 3 v xs.length (wlkC xs) ∧ ∀ g, v.ownBlock = some g → g < u
theorem walksAt_own {w : World} {B : Nat} {e : TypeId} {v : Value} {xs : List WlkD} (h : w.ownsRow B e 3 v xs.length (wlkC xs)) : WalksAt w v xs := by
  have hc := fun g hg => h.cells (g := g) hg
  have hl := h.lt
  obtain ⟨hn, h2⟩ := h
  rcases h2 with ⟨hv, h0⟩ | ⟨g, cap, cur, hv, hg, hh, h1, h3, h4, h5⟩
  · have : xs = [] := List.eq_nil_of_length_eq_zero h0
    subst this
    exact ⟨none, 0, hv, Nat.le_refl _, by decide, fun k hk => by simp at hk⟩
  · refine ⟨_, cap, hv, h1, h3, fun k hk => ⟨g, 0, rfl, (hl g (by rw [hv]; rfl)).2, ?_, ?_, ?_⟩⟩
    · have := hc g (by rw [hv]; rfl) (k * 3) _ (wlkC_get0 xs k hk)
      rw [addr_add] at this; exact this
    · have := hc g (by rw [hv]; rfl) (k * 3 + 1) _ (wlkC_get1 xs k hk)
      rw [addr_add] at this; exact this
    · have := hc g (by rw [hv]; rfl) (k * 3 + 2) _ (wlkC_get2 xs k hk)
      rw [addr_add] at this; exact this
theorem WalksIn.at {l u : Nat} {w : World} {v : Value} {xs : List WlkD} (h : WalksIn l u w v xs) : WalksAt w v xs := walksAt_own h.1
theorem WalksIn.lo {l u : Nat} {w : World} {v : Value} {xs : List WlkD} (h : WalksIn l u w v xs) (g : Nat) (hg : v.ownBlock = some g) : l ≤ g := (h.1.lt g hg).1
theorem WalksIn.later {l u : Nat} {w w' : World} {v : Value} {xs : List WlkD} (h : WalksIn l u w v xs) (hb : Below w.heap.size w w') : WalksIn l u w' v xs := ⟨own_later h.1 hb, h.2⟩
theorem WalksIn.out {l u lo hi : Nat} {w w' : World} {v : Value} {xs : List WlkD} (h : WalksIn l u w v xs) (ho : Out lo hi w w') (hs : u ≤ lo ∨ hi ≤ l) : WalksIn l u w' v xs :=
  ⟨own_out h.1 ho (fun g hg => by have := h.2 g hg; have := h.lo g hg; omega), h.2⟩
theorem WalksIn.mk {l : Nat} {w : World} {v : Value} {xs : List WlkD} (h : w.ownsRow l 67 3 v xs.length (wlkC xs)) : WalksIn l w.heap.size w v xs := ⟨h, fun g hg => (h.lt g hg).2⟩
theorem WalksIn.base {l l' u u' : Nat} {w : World} {v : Value} {xs : List WlkD} (h : WalksIn l u w v xs) (hl : l' ≤ l) (hu : u ≤ u') : WalksIn l' u' w v xs := ⟨own_base h.1 hl, fun g hg => Nat.lt_of_lt_of_le (h.2 g hg) hu⟩
theorem WalksIn.nil (l u : Nat) (w : World) : WalksIn l u w (.slice none 0 0) [] := ⟨World.ownsRow_nil _ _ _ _, fun g hg => by simp [Value.ownBlock] at hg⟩

section
variable {H : Type} {enc : TypeId × Value → H} {P : Program} {w : World} {base : Nat} {spare : Nat → Bool} {held : Bool}

end
end Go.Proofs.Ytemejcbilhcebaa
