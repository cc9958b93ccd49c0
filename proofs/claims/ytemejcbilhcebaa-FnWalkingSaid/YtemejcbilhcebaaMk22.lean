/-
  JOINED TEXTS, each under its own namespace line: NetL, DrawTT, DrawNetP.
-/
import Derived.Test.YtemejcbilhcebaaL2Own
import Derived.Test.YtemejcbilhcebaaMk08
import Derived.Test.YtemejcbilhcebaaMk16
import Derived.Test.YtemejcbilhcebaaRows
import Derived.LoopTactic
import Derived.WalkLawsBesides
import Derived.BigQuiet
import Derived.Deep.RegionHeld3
import Derived.Deep.QuietTactic
import Derived.Laws.Entries
import Derived.Test.YtemejcbilhcebaaDrawNet
namespace Go.Proofs.Ytemejcbilhcebaa
open Go.RowKit
set_option linter.unusedVariables false

theorem NetL.at {l u : Nat} {w : World} {v : Value} {n : NetD} (h : NetL l u w v n) : NetAt w v n := h w (Nat.le_refl _) fun _ _ _ _ => rfl
theorem NetL.keep {l u : Nat} {w w' : World} {v : Value} {n : NetD} (h : NetL l u w v n) (hz : w.heap.size ≤ w'.heap.size) (hq : ∀ q, l ≤ q → q < u → q < w.heap.size → w'.heap[q]? = w.heap[q]?) : NetL l u w' v n :=
  fun W hW hqW => h W (Nat.le_trans hz hW) fun q h1 h2 h3 => (hqW q h1 h2 (by omega)).trans (hq q h1 h2 h3)
theorem NetL.base {l l' u u' : Nat} {w : World} {v : Value} {n : NetD} (h : NetL l u w v n) (hl : l' ≤ l) (hu : u ≤ u') : NetL l' u' w v n :=
  fun W hW hqW => h W hW fun q h1 h2 h3 => hqW q (by omega) (by omega) h3
theorem NetL.later {l u : Nat} {w w' : World} {v : Value} {n : NetD} (h : NetL l u w v n) (hb : Below w.heap.size w w') : NetL l u w' v n := h.keep hb.size fun q _ _ h3 => hb.block q h3
theorem NetL.out {l u lo hi : Nat} {w w' : World} {v : Value} {n : NetD} (h : NetL l u w v n) (ho : Out lo hi w w') (hs : u ≤ lo ∨ hi ≤ l) : NetL l u w' v n :=
  h.keep ho.below.size fun q h1 h2 h3 => ho.block (by omega) h3

end Go.Proofs.Ytemejcbilhcebaa

namespace Go.Proofs.Ytemejcbilhcebaa
open Go.RowKit
set_option linter.unusedVariables false
set_option linter.unusedSimpArgs false

theorem wfB {z : Int} (h0 : -1000000 ≤ z) (h1 : z ≤ 1000000) : (Lit.int .i64 z).wf = true := by
  simp [Lit.wf, IntKind.bits, IntKind.signed, IntKind.min, IntKind.max]; omega
section
variable {w : World} {b n m : Nat} {v : Value} {xb : Nat} {d : NetD} {gS cS : Nat} {oa : Option Addr} {oc : Nat} {ts : List TripD} {tv : Value} {W W' : World}
end

end Go.Proofs.Ytemejcbilhcebaa

namespace Go.Proofs.Ytemejcbilhcebaa
open Go.RowKit
set_option linter.unusedVariables false
set_option linter.unusedSimpArgs false

theorem ints_store {w : World} {B n : Nat} {v : Value} {xs : List Int} (h : w.ownsRow B 3 1 v n (ints xs)) (hn : n = xs.length) (pb po : Nat) (z : Int) :
    ∃ xs' : List Int, xs'.length = xs.length ∧ (∀ y ∈ xs', y ∈ xs ∨ y = z) ∧ (w.setCell ⟨pb, po, none⟩ (.int .i64 z)).ownsRow B 3 1 v n (ints xs') := by
  by_cases hp : v.ownBlock = some pb
  · obtain ⟨h0, h1⟩ := h
    rcases h1 with ⟨hv, hn0⟩ | ⟨g, cap, cur, hv, hB, hb, h3, h4, h5, h6⟩
    · rw [hv] at hp; simp [Value.ownBlock] at hp
    · have hg : g = pb := by rw [hv] at hp; simpa [Value.ownBlock] using hp
      subst hg
      have hset : (w.setCell ⟨g, po, none⟩ (.int .i64 z)).heap[g]? = some (.cells (cur.setIfInBounds po (.int .i64 z)) 3 (0, 0)) := setCell_in hb po _
      by_cases ho : po < n
      · refine ⟨xs.set po z, by simp, fun y hy => by rcases List.mem_or_eq_of_mem_set hy with h | h; exact .inl h; exact .inr h, ⟨by rw [ints_len]; simp; omega, .inr ⟨g, cap, _, hv, hB, hset, h3, h4, by simpa using h5, ?_⟩⟩⟩
        rw [Array.toList_setIfInBounds, List.take_set, h6]
        unfold ints
        rw [List.map_set]
      · refine ⟨xs, rfl, fun y hy => .inl hy, ⟨h0, .inr ⟨g, cap, _, hv, hB, hset, h3, h4, by simpa using h5, ?_⟩⟩⟩
        rw [Array.toList_setIfInBounds, List.take_set_of_le (by omega), h6]
  · exact ⟨xs, rfl, fun y hy => .inl hy, own_block h (fun g hg => Below.heap_setCell _ _ _ _ (fun e => hp (by rw [hg, e])))⟩

theorem ints_append1 (w : World) (B n : Nat) (v : Value) (xs : List Int) (hown : w.ownsRow B 3 1 v n (ints xs)) (hn : n ≤ 1000) (z : Int) (g : Nat) (hz : w.cell? ⟨g, 0, none⟩ = some (.int .i64 z)) (hg : g < w.heap.size) (hB : B ≤ w.heap.size) :
    ∃ v' w', (Builtin.append_ #[34, 34] 34 #[v, .slice (some ⟨g, 0, none⟩) 1 1]).run Try.prog w = .ok v' w' ∧ w'.ownsRow B 3 1 v' (n + 1) (ints (xs ++ [z])) ∧ w.grownBy w' v.ownBlock ∧ (v'.ownBlock = v.ownBlock ∨ v'.ownBlock = some w.heap.size) ∧
      ∀ B2 y m ys, w.ownsRow B2 3 1 y m (ints ys) → ∃ ys' : List Int, ys'.length = ys.length ∧ (∀ q ∈ ys', q ∈ ys ∨ q = z) ∧ w'.ownsRow B2 3 1 y m (ints ys') := by
  have hrow : RowAt w (.slice (some ⟨g, 0, none⟩) [z].length 1) (ints [z]) := by
    refine ⟨_, _, rfl, by simp [ints], by simp [maxLen], fun k u hu => ?_⟩
    have : k = 0 := by have := (List.getElem?_eq_some_iff.1 hu).1; simp [ints] at this; omega
    subst this
    simp [ints] at hu
    subst hu
    exact ⟨g, 0, rfl, hg, hz⟩
  obtain ⟨v', w', h1, h2, h3, h5⟩ := run_append_ints w B n v xs hown g 0 1 [z] hrow (by simp; omega) hB
  change (Builtin.append_ #[34, 34] 34 #[v, .slice (some ⟨g, 0, none⟩) 1 1]).run Try.prog w = _ at h1
  refine ⟨v', w', h1, h2, h3, h5, fun B2 y m ys hy => ?_⟩
  by_cases hp : y.ownBlock = none ∨ y.ownBlock ≠ v.ownBlock
  · exact ⟨ys, rfl, fun q hq => .inl hq, hy.kept h3 hp⟩
  · obtain ⟨q, hq⟩ : ∃ q, y.ownBlock = some q := by
      rcases hyb : y.ownBlock with _ | q
      · exact absurd (.inl hyb) hp
      · exact ⟨q, rfl⟩
    have hqv : v.ownBlock = some q := by
      rcases Classical.em (y.ownBlock = v.ownBlock) with e | e
      · rw [← e, hq]
      · exact absurd (.inr e) hp
    obtain ⟨i, hi, hz0, hz1, hz2⟩ := info_parts infoInt
    have hy' := hy
    rcases hown.2 with ⟨e, -⟩ | ⟨g1, cap, cur, hv, hB1, hb, k3, k4, k5, k6⟩
    · rw [e] at hqv; simp [Value.ownBlock] at hqv
    have hg1 : g1 = q := by rw [hv] at hqv; simpa [Value.ownBlock] using hqv
    subst hg1
    obtain ⟨y0, y1⟩ := hy'
    rcases y1 with ⟨e, -⟩ | ⟨g2, cap2, cur2, hv2, hB2, hb2, l3, l4, l5, l6⟩
    · rw [e] at hq; simp [Value.ownBlock] at hq
    have hg2 : g2 = g1 := by rw [hv2] at hq; simpa [Value.ownBlock] using hq
    subst hg2
    rw [hb] at hb2
    simp only [Option.some.injEq, Obj.cells.injEq, true_and, and_true] at hb2
    subst hb2
    have hnx : n = xs.length := by have := hown.1; simp [ints] at this; omega
    have hmy : m = ys.length := by have := y0; simp [ints] at this; omega
    by_cases hroom : n + 1 ≤ cap
    · have hr := run_append_room (P := Try.prog) w 34 34 3 i Try.underlying34 hi g2 n cap cur hb ⟨g, 0, none⟩ 1 1 [.int .i64 z] (by rw [hz1]; rfl) (fun j u hu => by
          have : j = 0 := by have := (List.getElem?_eq_some_iff.1 hu).1; simp at this; omega
          subst this; simp at hu; subst hu; rw [addr_add]; exact hz) (fun u hu => by simp at hu; subst hu; rfl) hroom (by rw [hz1]; simp; omega)
      rw [hv, hr] at h1
      simp only [Result.ok.injEq] at h1
      obtain ⟨-, hw⟩ := h1
      have hset : w'.heap[g2]? = some (.cells (cur.toList.set n (.int .i64 z)).toArray 3 (0, 0)) := by
        have he : cur.toList.set n (.int .i64 z) = cur.toList.take (n * i.size) ++ [.int .i64 z] ++ cur.toList.drop (n * i.size + [Value.int .i64 z].length) := by
          rw [hz1, List.set_eq_take_append_cons_drop, if_pos (by rw [Array.length_toList]; omega)]
          simp
        rw [he, ← hw]
        exact setRow_heap w g2 cur _ 3 _ hb
      by_cases ho : n < m
      · refine ⟨ys.set n z, by simp, fun y hy => by rcases List.mem_or_eq_of_mem_set hy with h | h; exact .inl h; exact .inr h, ⟨by rw [ints_len]; simp; omega, .inr ⟨g2, cap2, _, hv2, hB2, hset, l3, l4, by simpa using l5, ?_⟩⟩⟩
        show List.take _ (cur.toList.set n (.int .i64 z)) = _
        rw [List.take_set, l6]
        unfold ints
        rw [List.map_set]
      · refine ⟨ys, rfl, fun y hy => .inl hy, ⟨y0, .inr ⟨g2, cap2, _, hv2, hB2, hset, l3, l4, by simpa using l5, ?_⟩⟩⟩
        show List.take _ (cur.toList.set n (.int .i64 z)) = _
        rw [List.take_set_of_le (by omega), l6]
    · have holds : ∀ j u, (ints xs)[j]? = some u → w.cell? ((⟨g2, 0, none⟩ : Addr).add j) = some u := hown.cells (g := g2) (by rw [hqv])
      have hr := run_append_grow (P := Try.prog) w 34 34 3 i _ Try.underlying34 hi hz0 ⟨g2, 0, none⟩ n cap (ints xs) (by rw [ints_len, hz1]; omega) holds ⟨g, 0, none⟩ 1 1 [.int .i64 z] (by rw [hz1]; rfl) (fun j u hu => by
          have : j = 0 := by have := (List.getElem?_eq_some_iff.1 hu).1; simp at this; omega
          subst this; simp at hu; subst hu; rw [addr_add]; exact hz) (by omega) (by omega) (growslice_fits (by omega) (by rw [hz2]; omega))
      rw [hv, hr] at h1
      simp only [Result.ok.injEq] at h1
      obtain ⟨-, hw⟩ := h1
      refine ⟨ys, rfl, fun y hy => .inl hy, own_block hy (fun g3 hg3 => ?_)⟩
      rw [← hw]
      exact Below.heap_alloc w.drew _ _ (hy.lt g3 hg3).2
end Go.Proofs.Ytemejcbilhcebaa
