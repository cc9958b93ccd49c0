/-
  CONTRACT of spec.l8Arrivals: the earliest arrivals with at most some legs.
-/
import Derived.Test.YtfgkfdkdjegaiaaJrnEnv
import Derived.Test.YtfgkfdkdjegaiaaFillS
import Derived.Test.YtfgkfdkdjegaiaaStopTimes
import Derived.Test.YtfgkfdkdjegaiaaWpRun
import Derived.OrdersHeld
import Derived.Deep.RegionHeld
namespace Go.Proofs.Ytfgkfdkdjegaiaa
open Go.RowKit Jrn
set_option linter.unusedVariables false
set_option linter.unusedSimpArgs false

theorem gr_set (w : World) (g o : Nat) (u : Value) : w.grownBy (w.setCell ⟨g, o, none⟩ u) (some g) :=
  ⟨rfl, rfl, rfl, by simp [World.setCell], fun q hq hne => Below.heap_setCell _ _ _ _ (fun e => hne (by rw [e]))⟩
theorem set_self (xs : List Int) (i : Nat) : xs.set i (xs.getD i 0) = xs := by
  by_cases h : i < xs.length
  · rw [List.getD_eq_getElem?_getD, List.getElem?_eq_getElem h]; exact List.set_getElem_self h
  · exact List.set_eq_of_length_le (by omega)
/-! all times are in range -/
def InR (xs : List Int) : Prop := ∀ i, -1 ≤ xs.getD i 0 ∧ xs.getD i 0 ≤ 2400
theorem InR.set {xs : List Int} (h : InR xs) (i : Nat) {v : Int} (hv : -1 ≤ v ∧ v ≤ 2400) : InR (xs.set i v) := by
  intro j
  by_cases hi : i < xs.length
  · rw [getD_set _ _ _ _ hi]; split
    · exact hv
    · exact h j
  · rw [List.set_eq_of_length_le (by omega)]; exact h j
theorem nextT_in {best : List Int} {frm at_ wait : Int} {r : RideD} {next : List Int} (hn : InR next) (ht : ∀ x ∈ r.times, 0 ≤ x ∧ x ≤ 2400) (hl : r.times.length = r.stops.length) : ∀ k, k ≤ r.stops.length → InR (nextT best frm at_ wait r next k)
  | 0, _ => hn
  | k + 1, hk => by
    have ih := nextT_in (best := best) (frm := frm) (at_ := at_) (wait := wait) hn ht hl k (by omega)
    simp only [nextT]
    split
    · refine ih.set _ ?_
      have h1 := ht _ (getD_mem (xs := r.times) (k := k) (by omega))
      have h2 := ih (r.stops.getD k 0).toNat
      unfold lowF
      split <;> omega
    · exact ih
theorem roundT_in {best : List Int} {frm at_ wait : Int} {rs : List RideD} {N : Nat} (hn : InR best) (hok : RidesOk rs) (hin : RidesIn N rs) : ∀ i, i ≤ rs.length → InR (roundT best frm at_ wait rs i)
  | 0, _ => hn
  | i + 1, hi => by
    have ih := roundT_in (frm := frm) (at_ := at_) (wait := wait) hn hok hin i (by omega)
    have hlt : i < rs.length := by omega
    simp only [roundT, List.getElem?_eq_getElem hlt]
    exact nextT_in ih (hin.time _ (List.getElem_mem hlt)) (hok.each _ (List.getElem_mem hlt)).len _ (Nat.le_refl _)
theorem arrT_in {N : Nat} {rs : List RideD} {ch frm at_ : Int} (hok : RidesOk rs) (hin : RidesIn N rs) (h0 : 0 ≤ at_) (h1 : at_ ≤ 2400) : ∀ n, InR (arrT N rs ch frm at_ n)
  | 0 => by
    refine InR.set (fun i => ?_) _ (by omega)
    rw [List.getD_eq_getElem?_getD, List.getElem?_replicate]
    split <;> simp
  | n + 1 => roundT_in (arrT_in hok hin h0 h1 n) hok hin _ (Nat.le_refl _)
theorem run_append_ints (w : World) (B n : Nat) (v : Value) (xs : List Int) (hown : w.ownsRow B 3 1 v n (ints xs)) (g off cap : Nat) (ys : List Int) (hy : RowAt w (.slice (some ⟨g, off, none⟩) ys.length cap) (ints ys)) (hn : n + ys.length ≤ 1048576) (hB : B ≤ w.heap.size) :
    ∃ v' w', (Builtin.append_ #[31, 31] 31 #[v, .slice (some ⟨g, off, none⟩) ys.length cap]).run Try.prog w = .ok v' w' ∧ w'.ownsRow B 3 1 v' (n + ys.length) (ints (xs ++ ys)) ∧ w.grownBy w' v.ownBlock ∧ (v'.ownBlock = v.ownBlock ∨ v'.ownBlock = some w.heap.size) := by
  obtain ⟨i, hi, hz0, hz1, hz2⟩ := info_parts infoInt
  obtain ⟨v', w', h1, h2, h3, -, h5⟩ := run_append_own_at (P := Try.prog) (w := w) B 31 31 3 i (.int .i64 0) 1 8 Try.underlying31 hi hz0 hz1 hz2 rfl (by decide) v n (ints xs) hown ⟨g, off, none⟩ ys.length cap (ints ys) (by rw [ints_len]; omega)
    (fun j u hu => by
      obtain ⟨_, _, he, _, _, hcell⟩ := hy
      simp [ints_len] at he
      obtain ⟨rfl, rfl⟩ := he
      obtain ⟨b', o', he, hlt, hc'⟩ := hcell j u hu
      simp at he
      obtain ⟨rfl, rfl⟩ := he
      rw [addr_add]; exact hc')
    (fun u hu => by obtain ⟨z, _, rfl⟩ := List.mem_map.1 hu; rfl) (by unfold maxLen; omega) (by omega) hB
  exact ⟨v', w', h1, by unfold ints at *; rw [List.map_append]; exact h2, h3, h5⟩

end Go.Proofs.Ytfgkfdkdjegaiaa
