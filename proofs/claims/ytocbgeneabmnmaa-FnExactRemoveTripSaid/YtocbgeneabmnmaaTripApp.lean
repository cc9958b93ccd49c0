/-
  append([]Trip{}, xs...): a row of trips of the call's own; an append as a step of a region that draws, by its run equation.
-/
import Derived.Test.YtocbgeneabmnmaaMb
import Derived.Deep.AppendLies
import Derived.Deep.Upon
import Derived.OrdersHeld
namespace Go.Proofs.Ytocbgeneabmnmaa
open Go.RowKit
set_option linter.unusedVariables false

theorem step_append_run {P : Program} {ops : Array Oper} {o : Oper} {a : Act} {K : Act → World → Prop} {Q : Exit → Act → World → Prop} {E : Prop} {w w' : World} {v y v' : Value} (hgd : o.guard = none) (s x : Operand) (t : TypeId)
    (ho : o.op = .call { callee := .builtin .append, args := #[s, x], argTypes := #[t, t] }) (hs : a.eval s = v) (hx : a.eval x = y) (hr : (Builtin.append_ #[t, t] o.type #[v, y]).run P w = .ok v' w') (h : K (a.put o.dst v') w') :
    if Region.wanted o (yielded ops a.tmps) = true then Oper.wp P o a w K Q else E := by
  have hw : Region.wanted o (yielded ops a.tmps) = true := by simp [Region.wanted, hgd]
  rw [if_pos hw]
  unfold Oper.wp execOp
  simp only [ho, resolve, invoke, builtin, Sem.run_bind, Sem.run_pure, Result.andThen_ok, List.map_toArray, List.map_cons, List.map_nil, hs, hx, hr]
  exact h

set_option maxRecDepth 100000 in
theorem run_append_trips (w : World) (B g : Nat) (xs : List TripD) (ta : Option Addr) (tc : Nat) (hr : TripsAt w (.slice ta xs.length tc) xs) (hl : xs.length ≤ 1048576) (hB : B ≤ w.heap.size)
    (hown : w.ownsRow B 32 3 (.slice (some ⟨g, 0, none⟩) 0 0) 0 []) :
    ∃ g' c' w', (Builtin.append_ #[28, 28] 28 #[.slice (some ⟨g, 0, none⟩) 0 0, .slice ta xs.length tc]).run Try.prog w = .ok (.slice (some ⟨g', 0, none⟩) xs.length c') w' ∧
      w'.ownsRow B 32 3 (.slice (some ⟨g', 0, none⟩) xs.length c') xs.length (tripC xs) ∧ w.grownBy w' (some g) ∧ (g' = g ∨ g' = w.heap.size) ∧ g' < w'.heap.size := by
  obtain ⟨i, hi, hz0, hz1, hz2⟩ := info_parts infoTrip
  by_cases h0 : xs = []
  · subst h0
    have hsrc : Src Try.prog i.size 28 (.slice ta 0 tc) 0 [] w := by
      cases ta with
      | none => exact Src.ofNil w Try.underlying28 tc
      | some ad => exact Src.ofSlice w Try.underlying28 ad 0 tc [] (by simp) (by simp) (by simp)
    exact ⟨g, 0, w, run_append_nothing w _ _ _ _ i Try.underlying28 hi _ 0 0 (Nat.le_refl _) _ hsrc, hown, World.grownBy.refl _ _, .inl rfl, (hown.lt g rfl).2⟩
  · have hp : 0 < xs.length := by cases xs with | nil => exact absurd rfl h0 | cons a b => simp
    obtain ⟨_, _, he, hc, hm, HC⟩ := trips_open hr
    simp at he
    obtain ⟨rfl, rfl⟩ := he
    obtain ⟨b, off, rfl, hb, -⟩ := HC.out 0 hp
    have hcell : ∀ j u, (tripC xs)[j]? = some u → w.cell? ((⟨b, off, none⟩ : Addr).add j) = some u := fun j u hu => by
      rw [addr_add]
      have hj : j < xs.length * 3 := by rw [← tripC_len]; exact (List.getElem?_eq_some_iff.1 hu).1
      have hk : j / 3 < xs.length := by omega
      obtain ⟨b', off', he, _, c0, c1, c2⟩ := HC.out (j / 3) hk
      simp at he
      obtain ⟨rfl, rfl⟩ := he
      have h3 : j = j / 3 * 3 + j % 3 := by omega
      have hm : j % 3 = 0 ∨ j % 3 = 1 ∨ j % 3 = 2 := by omega
      rw [h3] at hu ⊢
      rcases hm with hm | hm | hm <;> rw [hm] at hu ⊢
      · rw [Nat.add_zero] at hu ⊢; rw [tripC_get0 xs _ hk] at hu; rw [c0]; exact hu
      · rw [tripC_get1 xs _ hk] at hu; rw [← Nat.add_assoc, c1]; exact hu
      · rw [tripC_get2 xs _ hk] at hu; rw [← Nat.add_assoc, c2]; exact hu
    obtain ⟨g', c', w', h1, h2, h3, h4, h5⟩ := run_append_lies (P := Try.prog) w 28 28 B 32 i (.agg #[.int .i64 0, .int .i64 0, .int .i64 0]) 3 24 Try.underlying28 hi hz0 hz1 hz2 rfl (by decide) _ _ _ hown ⟨b, off, none⟩ xs.length tc (tripC xs) (tripC_len xs) hcell (tripC_cells xs) hp (by unfold maxLen; omega) (by omega) hB _ rfl
    rw [Nat.zero_add] at h1 h2
    refine ⟨g', c', w', h1, by simpa using h2, h3, h4.imp (fun e => ?_) id, h5⟩
    simp [Value.ownBlock] at e
    exact e.symm
end Go.Proofs.Ytocbgeneabmnmaa
