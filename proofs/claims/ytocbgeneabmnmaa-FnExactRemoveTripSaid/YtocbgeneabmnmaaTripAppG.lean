/-
  append of trips to a row of the call's own, in general; parts of trips in memory.
-/
import Derived.Test.YtocbgeneabmnmaaTripApp
namespace Go.Proofs.Ytocbgeneabmnmaa
open Go.RowKit
set_option linter.unusedVariables false

/-- a part of trips in memory -/
theorem TripsAt.take {w : World} {a : Option Addr} {c n : Nat} {xs : List TripD} (h : TripsAt w (.slice a n c) xs) (p : Nat) (hp : p ≤ xs.length) : TripsAt w (.slice a p c) (xs.take p) := by
  obtain ⟨a', c', he, h1, h2, h3⟩ := h
  simp at he
  obtain ⟨rfl, rfl, rfl⟩ := he
  have hl : (xs.take p).length = p := by simp; omega
  refine ⟨_, _, by rw [hl], by omega, h2, fun k hk => ?_⟩
  obtain ⟨b, off, ha, hlt, c0, c1, c2⟩ := h3 k (by omega)
  simp only [List.getElem_take]
  exact ⟨b, off, ha, hlt, c0, c1, c2⟩
theorem TripsAt.drop {w : World} {b off c n : Nat} {xs : List TripD} (h : TripsAt w (.slice (some ⟨b, off, none⟩) n c) xs) (p : Nat) (hp : p ≤ xs.length) : TripsAt w (.slice (some ⟨b, off + p * 3, none⟩) (n - p) (c - p)) (xs.drop p) := by
  obtain ⟨a', c', he, h1, h2, h3⟩ := h
  simp at he
  obtain ⟨rfl, rfl, rfl⟩ := he
  refine ⟨_, _, by rw [List.length_drop], by simp; omega, by omega, fun k hk => ?_⟩
  have hk' : p + k < xs.length := by simp at hk; omega
  obtain ⟨b', off', ha, hlt, c0, c1, c2⟩ := h3 (p + k) hk'
  simp at ha
  obtain ⟨rfl, rfl⟩ := ha
  simp only [List.getElem_drop]
  refine ⟨b, off + p * 3, rfl, hlt, ?_, ?_, ?_⟩
  · rw [show off + p * 3 + k * 3 = off + (p + k) * 3 by omega]; exact c0
  · rw [show off + p * 3 + k * 3 + 1 = off + (p + k) * 3 + 1 by omega]; exact c1
  · rw [show off + p * 3 + k * 3 + 2 = off + (p + k) * 3 + 2 by omega]; exact c2

set_option maxRecDepth 100000 in
theorem run_append_tripsG (w : World) (B g n c : Nat) (zs : List TripD) (hn : zs.length = n) (hnl : n ≤ 1048576) (xs : List TripD) (ta : Option Addr) (tc : Nat) (hr : TripsAt w (.slice ta xs.length tc) xs) (hl : xs.length ≤ 1048576) (hB : B ≤ w.heap.size)
    (hown : w.ownsRow B 32 3 (.slice (some ⟨g, 0, none⟩) n c) n (tripC zs)) :
    ∃ g' c' w', (Builtin.append_ #[28, 28] 28 #[.slice (some ⟨g, 0, none⟩) n c, .slice ta xs.length tc]).run Try.prog w = .ok (.slice (some ⟨g', 0, none⟩) (n + xs.length) c') w' ∧
      w'.ownsRow B 32 3 (.slice (some ⟨g', 0, none⟩) (n + xs.length) c') (n + xs.length) (tripC (zs ++ xs)) ∧ w.grownBy w' (some g) ∧ (g' = g ∨ g' = w.heap.size) ∧ g' < w'.heap.size := by
  obtain ⟨i, hi, hz0, hz1, hz2⟩ := info_parts infoTrip
  by_cases h0 : xs = []
  · subst h0
    have hsrc : Src Try.prog i.size 28 (.slice ta 0 tc) 0 [] w := by
      cases ta with
      | none => exact Src.ofNil w Try.underlying28 tc
      | some ad => exact Src.ofSlice w Try.underlying28 ad 0 tc [] (by simp) (by simp) (by simp)
    have hnc : n ≤ c := by
      obtain ⟨_, h2⟩ := hown
      rcases h2 with ⟨hv, _⟩ | ⟨g1, cap, cur, hv, _, _, h, _⟩
      · simp at hv
      · simp at hv; omega
    refine ⟨g, c, w, run_append_nothing w _ _ _ _ i Try.underlying28 hi _ n c hnc _ hsrc, ?_, World.grownBy.refl _ _, .inl rfl, (hown.lt g rfl).2⟩
    simpa using hown
  · have hp : 0 < xs.length := by cases xs with | nil => exact absurd rfl h0 | cons a b => simp
    obtain ⟨_, _, he, hc, hm, HC⟩ := trips_open hr
    simp at he
    obtain ⟨rfl, rfl⟩ := he
    obtain ⟨b, off, rfl, hb, -⟩ := HC.out 0 hp
    have hcell : ∀ j u, (tripC xs)[j]? = some u → w.cell? ((⟨b, off, none⟩ : Addr).add j) = some u := fun j u hu => by
      rw [addr_add]
      have hj : j < xs.length * 3 := by rw [← tripC_len]; exact (List.getElem?_eq_some_iff.1 hu).1
      have hk : j / 3 < xs.length := by omega
      obtain ⟨b', off', he, _, c0, c1, c2⟩ := HC.out (j / 3) hk
      simp at he
      obtain ⟨rfl, rfl⟩ := he
      have h3 : j = j / 3 * 3 + j % 3 := by omega
      have hm : j % 3 = 0 ∨ j % 3 = 1 ∨ j % 3 = 2 := by omega
      rw [h3] at hu ⊢
      rcases hm with hm | hm | hm <;> rw [hm] at hu ⊢
      · rw [Nat.add_zero] at hu ⊢; rw [tripC_get0 xs _ hk] at hu; rw [c0]; exact hu
      · rw [tripC_get1 xs _ hk] at hu; rw [← Nat.add_assoc, c1]; exact hu
      · rw [tripC_get2 xs _ hk] at hu; rw [← Nat.add_assoc, c2]; exact hu
    obtain ⟨g', c', w', h1, h2, h3, h4, h5⟩ := run_append_lies (P := Try.prog) w 28 28 B 32 i (.agg #[.int .i64 0, .int .i64 0, .int .i64 0]) 3 24 Try.underlying28 hi hz0 hz1 hz2 rfl (by decide) _ _ _ hown ⟨b, off, none⟩ xs.length tc (tripC xs) (tripC_len xs) hcell (tripC_cells xs) hp (by unfold maxLen; omega) (by omega) hB _ rfl
    refine ⟨g', c', w', h1, by rw [tripC_append]; exact h2, h3, h4.imp (fun e => ?_) id, h5⟩
    simp [Value.ownBlock] at e
    exact e.symm
end Go.Proofs.Ytocbgeneabmnmaa
