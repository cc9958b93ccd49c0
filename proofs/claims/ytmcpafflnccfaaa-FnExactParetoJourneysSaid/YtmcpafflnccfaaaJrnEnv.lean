/-
  WHAT THE CLOSURES OF impl.journeysTo HOLD: their boxes, the map of legs, the map of what has been found; how it is carried.
-/
import Derived.Test.YtmcpafflnccfaaaCmpJ
import Derived.Test.YtmcpafflnccfaaaLegMap
import Derived.Test.YtmcpafflnccfaaaKeyB
import Derived.Test.YtmcpafflnccfaaaLegsBy
namespace Go.Proofs.Ytmcpafflnccfaaa
open Go.RowKit Go.Maps Jrn
set_option linter.unusedVariables false
set_option linter.unusedSimpArgs false

theorem gr_trans {w w' w'' : World} {r : Option Nat} (h : w.grownBy w' r) (k : w'.grownBy w'' r) : w.grownBy w'' r :=
  ⟨k.os.trans h.os, k.tape.trans h.tape, k.output.trans h.output, Nat.le_trans h.size k.size, fun q hq hne => (k.block q (Nat.lt_of_lt_of_le hq h.size) hne).trans (h.block q hq hne)⟩
theorem gr_below {w w' : World} (h : Below w.heap.size w w') (r : Option Nat) : w.grownBy w' r := ⟨h.os, h.tape, h.output, h.size, fun q hq _ => h.block q hq⟩
theorem below_gr {w w' : World} {m b : Nat} (h : w.grownBy w' (some m)) (hb : b ≤ m) (hs : b ≤ w.heap.size) : Below b w w' :=
  ⟨h.os, h.tape, h.output, h.size, fun q hq => h.block q (by omega) (by simp; omega)⟩
theorem gr_cell {w w' : World} {m : Nat} {a : Addr} {v : Value} (h : w.grownBy w' (some m)) (hc : w.cell? a = some v) (hm : a.block ≠ m) : w'.cell? a = some v := by
  have hl := World.block_lt_of_cell? w _ hc
  exact (World.cell?_of_block (h.block a.block hl (by simpa using hm))).trans hc
theorem gr_own {w w' : World} {m lo : Nat} {e : TypeId} {z n : Nat} {v : Value} {xs : List Value} (h : w.grownBy w' (some m)) (ho : w.ownsRow lo e z v n xs) (hm : v.ownBlock ≠ some m) : w'.ownsRow lo e z v n xs := ho.kept h (.inr hm)

theorem LegMap.gr {lo b m : Nat} {No : Nat → Prop} {w w' : World} {L : List LegD} (h : LegMap lo b No w L) (hg : w.grownBy w' (some m)) (hm : No m) (hb : b ≠ m) : LegMap lo b No w' L := by
  obtain ⟨h1, n, f, p, hn, hmp, hr, hap, hno⟩ := h
  refine ⟨h1, n, f, p, hn, hmp.kept hg (by simpa using hb), fun s => (hr s).kept hg ?_, hap, hno⟩
  cases hv : (f (iLit s)).ownBlock with
  | none => exact .inl rfl
  | some g => exact .inr fun e => hno s g hv (by simp at e; rw [e]; exact hm)
theorem LegMap.look2 {lo b : Nat} {No : Nat → Prop} {w : World} {L : List LegD} (h : LegMap lo b No w L) (s : Int) (hs : (Lit.int .i64 s).wf = true) :
    ∃ v, (Instr.lookup 90 (.map (some b)) (.int .i64 s) false).run Try.prog w = .ok v w ∧ w.ownsRow lo 62 5 v (legsAt L s).length (legC (legsAt L s)) ∧ ∀ g, v.ownBlock = some g → ¬ No g := by
  obtain ⟨h1, n, f, p, hn, hm, hr, hap, hno⟩ := h
  exact ⟨_, hm.look (int_keyed Try.underlying3) Try.underlying90 zeroLegS (keyOf_int_mk Try.underlying3 hs), hr s, hno s⟩

/-- a journey in memory of the call's own, or nil -/
def JAt (lo : Nat) (w : World) (v : Value) : Option (List LegD) → Prop
  | none => v = .slice none 0 0
  | some c => (∃ g cap, v = .slice (some ⟨g, 0, none⟩) c.length cap) ∧ w.ownsRow lo 62 5 v c.length (legC c)
theorem JAt.gr {lo m : Nat} {w w' : World} {v : Value} {o : Option (List LegD)} (h : JAt lo w v o) (hg : w.grownBy w' (some m)) (hm : m < lo) : JAt lo w' v o := by
  cases o with
  | none => exact h
  | some c =>
    obtain ⟨h1, h2⟩ := h
    exact ⟨h1, gr_own hg h2 (fun e => by have := (h2.lt m e).1; omega)⟩
theorem JAt.later {lo : Nat} {w w' : World} {v : Value} {o : Option (List LegD)} (h : JAt lo w v o) (hb : Below w.heap.size w w') : JAt lo w' v o := by
  cases o with
  | none => exact h
  | some c => exact ⟨h.1, own_later h.2 hb⟩
theorem JAt.at {lo : Nat} {w : World} {v : Value} {c : List LegD} (h : JAt lo w v (some c)) : LegsAt w v c := legsAt_own h.2

/-- how often something is stored at most -/
def cst : Nat → Nat
  | 0 => 0
  | k + 1 => 432 * cst k + 1
abbrev fnFind : FuncId := 100
abbrev fnBegin : FuncId := 99
structure JEnv (b bL : Nat) (L : List LegD) (ch too : Int) (n : Nat) (w : World) : Prop where
  cL : w.cell? ⟨b, 0, none⟩ = some (.map (some bL))
  cC : w.cell? ⟨b + 1, 0, none⟩ = some (.int .i64 ch)
  cT : w.cell? ⟨b + 2, 0, none⟩ = some (.int .i64 too)
  cM : w.cell? ⟨b + 4, 0, none⟩ = some (.map (some (b + 3)))
  cF : w.cell? ⟨b + 5, 0, none⟩ = some (.func (.func fnFind) #[] #[.pointer (some ⟨b + 4, 0, none⟩), .pointer (some ⟨b, 0, none⟩), .pointer (some ⟨b + 6, 0, none⟩)])
  cB : w.cell? ⟨b + 6, 0, none⟩ = some (.func (.func fnBegin) #[] #[.pointer (some ⟨b + 2, 0, none⟩), .pointer (some ⟨b + 5, 0, none⟩), .pointer (some ⟨b + 1, 0, none⟩)])
  size : b + 7 ≤ w.heap.size
  map : bL < b ∧ ∃ lo, LegMap lo bL (fun g => b ≤ g) w L
  memo : ∃ f p, HdrMap Try.prog 93 (.slice none 0 0) (b + 3) n f p w ∧
    ∀ (s t : Int) (k : Nat) kl, keyOf Try.prog 93 (bV s t k) = some kl → p kl = true → JAt (b + 7) w (f kl) (Jrn.bestF L ch too k s t)
section
variable {b bL : Nat} {L : List LegD} {ch too : Int} {n : Nat} {w w' : World}
theorem HdrMap.mono {P : Program} {k : TypeId} {z : Value} {b n n' : Nat} {f : Lit → Value} {p : Lit → Bool} {w : World} (h : HdrMap P k z b n f p w) (hn : n ≤ n') : HdrMap P k z b n' f p w := by
  obtain ⟨D, h1, h2⟩ := h; exact ⟨D, h1.mono hn, h2⟩
theorem JEnv.mono {n' : Nat} (h : JEnv b bL L ch too n w) (hn : n ≤ n') : JEnv b bL L ch too n' w := by
  obtain ⟨f, p, h1, h2⟩ := h.memo
  exact ⟨h.cL, h.cC, h.cT, h.cM, h.cF, h.cB, h.size, h.map, f, p, h1.mono hn, h2⟩
theorem JEnv.later (h : JEnv b bL L ch too n w) (hb : Below w.heap.size w w') : JEnv b bL L ch too n w' := by
  obtain ⟨f, p, h1, h2⟩ := h.memo
  obtain ⟨hl, lo, hm⟩ := h.map
  exact ⟨bkeep hb h.cL, bkeep hb h.cC, bkeep hb h.cT, bkeep hb h.cM, bkeep hb h.cF, bkeep hb h.cB, Nat.le_trans h.size hb.size, ⟨hl, lo, hm.later hb⟩, f, p, h1.later hb, fun s t k kl hk hp => (h2 s t k kl hk hp).later hb⟩
/-- what has been found is stored -/
theorem JEnv.put (h : JEnv b bL L ch too n w) {s t : Int} {k : Nat} (hs : (Lit.int .i64 s).wf = true) (ht : (Lit.int .i64 t).wf = true) (hk : (Lit.int .i64 (k : Int)).wf = true) (hn : n < 100000000000) {v : Value} (hv : JAt (b + 7) w v (Jrn.bestF L ch too k s t)) :
    ∃ w', (Instr.mapUpdate 139 (.map (some (b + 3))) (bV s t k) v).run Try.prog w = .ok () w' ∧ JEnv b bL L ch too (n + 1) w' ∧ w.grownBy w' (some (b + 3)) := by
  obtain ⟨f, p, h1, h2⟩ := h.memo
  obtain ⟨kl, hkl⟩ := keyB hs ht hk
  obtain ⟨w', hrun, hm, hg⟩ := h1.put keyedB Try.underlying139 (by unfold maxLen; omega) hkl (v := v)
  obtain ⟨hl, lo, hlm⟩ := h.map
  refine ⟨w', hrun, ⟨gr_cell hg h.cL (by show b ≠ b + 3; omega), gr_cell hg h.cC (by show b + 1 ≠ b + 3; omega), gr_cell hg h.cT (by show b + 2 ≠ b + 3; omega), gr_cell hg h.cM (by show b + 4 ≠ b + 3; omega), gr_cell hg h.cF (by show b + 5 ≠ b + 3; omega), gr_cell hg h.cB (by show b + 6 ≠ b + 3; omega), Nat.le_trans h.size hg.size, ⟨hl, lo, hlm.gr hg (by show b ≤ b + 3; omega) (by omega)⟩, _, _, hm, fun s' t' k' kl' hk' hp' => ?_⟩, hg⟩
  by_cases e : kl' = kl
  · subst e
    have := keyedB.inj hkl hk'
    unfold bV at this
    simp at this
    obtain ⟨rfl, rfl, e3⟩ := this
    obtain rfl : k = k' := by omega
    rw [updF_same]
    exact hv.gr hg (by omega)
  · rw [updP_other p e] at hp'
    rw [updF_other f v e]
    exact (h2 s' t' k' kl' hk' hp').gr hg (by omega)
theorem JEnv.lookM (h : JEnv b bL L ch too n w) {s t : Int} {k : Nat} (hs : (Lit.int .i64 s).wf = true) (ht : (Lit.int .i64 t).wf = true) (hk : (Lit.int .i64 (k : Int)).wf = true) :
    ∃ v ok, (Instr.lookup 139 (.map (some (b + 3))) (bV s t k) true).run Try.prog w = .ok (.tuple #[v, .bool ok]) w ∧ (ok = true → JAt (b + 7) w v (Jrn.bestF L ch too k s t)) := by
  obtain ⟨f, p, h1, h2⟩ := h.memo
  obtain ⟨kl, hkl⟩ := keyB hs ht hk
  exact ⟨_, _, h1.lookOk keyedB Try.underlying139 zeroLegS hkl, fun hp => h2 s t k kl hkl hp⟩
end
/-- append of legs onto a row of the call's own -/
theorem run_append_legs (w : World) (B n : Nat) (v : Value) (xs : List LegD) (hown : w.ownsRow B 62 5 v n (legC xs)) (g off cap : Nat) (ys : List LegD) (hy : LegsAt w (.slice (some ⟨g, off, none⟩) ys.length cap) ys) (hn : n + ys.length ≤ 1048576) (hB : B ≤ w.heap.size) :
    ∃ v' w', (Builtin.append_ #[30, 30] 30 #[v, .slice (some ⟨g, off, none⟩) ys.length cap]).run Try.prog w = .ok v' w' ∧ w'.ownsRow B 62 5 v' (n + ys.length) (legC (xs ++ ys)) ∧ w.grownBy w' v.ownBlock ∧ (v' = .slice none 0 0 ↔ v = .slice none 0 0 ∧ ys.length = 0) := by
  obtain ⟨i, hi, hz0, hz1, hz2⟩ := info_parts infoLeg
  obtain ⟨v', w', h1, h2, h3, h4, -⟩ := run_append_own_at (P := Try.prog) (w := w) B 30 30 62 i _ 5 40 Try.underlying30 hi hz0 hz1 hz2 rfl (by decide) v n (legC xs) hown ⟨g, off, none⟩ ys.length cap (legC ys) (by rw [legC_len])
    (fun j u hu => by
      have hj : j < ys.length * 5 := by rw [← legC_len]; exact (List.getElem?_eq_some_iff.1 hu).1
      have hk : j / 5 < ys.length := by omega
      obtain ⟨g', o', he, -, c0, c1, c2, c3, c4⟩ := leg_at hy (j / 5) hk
      simp at he
      obtain ⟨rfl, rfl⟩ := he
      rw [addr_add]
      have h5 : j = j / 5 * 5 + j % 5 := by omega
      have hm : j % 5 = 0 ∨ j % 5 = 1 ∨ j % 5 = 2 ∨ j % 5 = 3 ∨ j % 5 = 4 := by omega
      rw [h5] at hu ⊢
      rcases hm with hm | hm | hm | hm | hm <;> rw [hm] at hu ⊢
      · rw [Nat.add_zero] at hu ⊢; rw [legC_get0 ys _ hk] at hu; rw [c0]; exact hu
      · rw [legC_get1 ys _ hk] at hu; rw [← Nat.add_assoc, c1]; exact hu
      · rw [legC_get2 ys _ hk] at hu; rw [← Nat.add_assoc, c2]; exact hu
      · rw [legC_get3 ys _ hk] at hu; rw [← Nat.add_assoc, c3]; exact hu
      · rw [legC_get4 ys _ hk] at hu; rw [← Nat.add_assoc, c4]; exact hu)
    (legC_cells ys) (by unfold maxLen; omega) (by omega) hB
  exact ⟨v', w', h1, by rw [legC_append]; exact h2, h3, h4⟩
end Go.Proofs.Ytmcpafflnccfaaa
