/-
  JOINED TEXTS, each under its own namespace line: LinesMk, RunBase, NetLine, IsValidJourney, OwnI, WpRun, L8Arr.
-/
import Derived.Test.YtfgkfdkdjegaiaaMk10
import Derived.Test.YtfgkfdkdjegaiaaRows
import Derived.Test.YtfgkfdkdjegaiaaMk01
import Derived.LoopTactic
import Derived.WalkLawsBesides
import Derived.Lib.Hide
import Derived.BigQuiet
import Derived.OwnWalk
import Derived.Test.YtfgkfdkdjegaiaaMk02
import Derived.Lib.ItoaNum
import Derived.Lib.ItoaLen
import Derived.Lib.IndexMore
import Derived.Laws.Concat
import Derived.Laws.Strings
import Derived.Laws.IdiomStrings
import Derived.Deep.RegionHeld3
import Derived.Laws.Entries
import Derived.Test.YtfgkfdkdjegaiaaMk04
import Derived.Deep.QuietTactic
import Derived.Test.YtfgkfdkdjegaiaaMk05
import Derived.RegionTactic
import Derived.BigRegion
import Derived.WalkKit
import Derived.Maps.Own
import Derived.Maps.OwnSet
import Derived.Maps.Views
import Derived.Test.YtfgkfdkdjegaiaaMk08
import Derived.Maps.AppendAt
import Derived.Test.YtfgkfdkdjegaiaaMk03
import Derived.Deep.Upon
import Derived.OrdersHeld
import Derived.Deep.RegionHeld
import Derived.Laws.StructEq
import Derived.DeepKeys4
namespace Go.Proofs.Ytfgkfdkdjegaiaa
open Go.RowKit
set_option linter.unusedVariables false

theorem row_grown {w w' : World} {v : Value} {xs : List Value} {row : Option Nat} (h : RowAt w v xs) (hg : w.grownBy w' row) (hne : v.ownBlock = none ∨ v.ownBlock ≠ row) : RowAt w' v xs := by
  obtain ⟨a, c, hv, h1, h2, h3⟩ := h
  refine ⟨a, c, hv, h1, h2, fun k u hu => ?_⟩
  obtain ⟨b, off, ha, hlt, hc⟩ := h3 k u hu
  have ho : v.ownBlock = some b := by rw [hv, ha]; rfl
  refine ⟨b, off, ha, Nat.lt_of_lt_of_le hlt hg.size, gcell hg hc (fun e => ?_)⟩
  rcases hne with h0 | h0
  · rw [ho] at h0; cases h0
  · exact h0 (by rw [ho, e])
theorem LineAt.grown {w w' : World} {g o : Nat} {l : LineD} {row : Option Nat} (h : LineAt w g o l) (hg : w.grownBy w' row) (hne : row ≠ some g)
    (hs : ∀ v i, (i = 1 ∨ i = 2) → w.cell? ⟨g, o + i, none⟩ = some v → v.ownBlock = none ∨ v.ownBlock ≠ row) : LineAt w' g o l := by
  obtain ⟨sv, rv, c0, c1, c2, r1, r2⟩ := h
  exact ⟨sv, rv, gcell hg c0 hne, gcell hg c1 hne, gcell hg c2 hne, row_grown r1 hg (hs sv 1 (.inl rfl) c1), row_grown r2 hg (hs rv 2 (.inr rfl) c2)⟩
end Go.Proofs.Ytfgkfdkdjegaiaa

namespace Go.Proofs.Ytfgkfdkdjegaiaa
open Go.RowKit
set_option linter.unusedVariables false

def runSum (l : LineD) (a b : Nat) : Int := ((l.runs.drop a).take (b - a)).sum
theorem sum_bound : ∀ (xs : List Int), (∀ x ∈ xs, 1 ≤ x ∧ x ≤ 60) → 0 ≤ xs.sum ∧ xs.sum ≤ 60 * xs.length
  | [], _ => by simp
  | x :: xs, h => by
    have h1 := h x (by simp)
    have h2 := sum_bound xs (fun y hy => h y (by simp [hy]))
    simp only [List.sum_cons, List.length_cons]
    omega
theorem sum_take_succ (xs : List Int) (k : Nat) (h : k < xs.length) : (xs.take (k + 1)).sum = (xs.take k).sum + xs[k] := by
  rw [List.take_succ_eq_append_getElem h, List.sum_append, List.sum_cons, List.sum_nil]; omega
theorem good_line {n : NetD} (hg : NetGood n) (i : Nat) (hi : i < n.lines.length) : LineGood n.lines[i] n.stops.length := hg.2.2.2.1 _ (List.getElem_mem hi)

set_option maxHeartbeats 1000000 in
theorem l2Run_any (v : Value) (l : LineD) (i j : Nat) (w : World) (hr : LineV w v l) (hij : i ≤ j) (hj : j ≤ l.runs.length) (hl : l.runs.length ≤ 6) (hb : ∀ r ∈ l.runs, 1 ≤ r ∧ r ≤ 60) :
    Calls Try.prog 106 #[v, .int .i64 i, .int .i64 j] w fun e w' => e = .returned (.int .i64 (runSum l i j)) ∧ Below w.heap.size w w' := by
  obtain ⟨sv, rv, rfl, hs, hrr⟩ := hr
  obtain ⟨a, c, rfl, _⟩ := ints_open hs
  obtain ⟨a', c', rfl, hc', hm', HC⟩ := ints_open hrr
  have HBd := Lib.hid hb
  clear hs hrr hb
  go_enter Try.func106, Try.ntmps106
  go_wp2_with fail
  go_loop [7, 8] (fun s q => ∃ k : Nat, k ≤ j - i ∧ q = .int .i64 ((i + k : Nat) : Int) ∧ s = .int .i64 ((l.runs.drop i).take k).sum) (fun _ q => j - (RowKit.intOf q).toNat)
  case atStart => exact ⟨0, Nat.zero_le _, rfl, by simp⟩
  case round =>
    obtain ⟨k, hk, rfl, rfl⟩ := hrel
    have hbd := sum_bound ((l.runs.drop i).take k) (fun x hx => HBd.out x (List.mem_of_mem_drop (List.mem_of_mem_take hx)))
    have hlen : ((l.runs.drop i).take k).length ≤ 6 := by simp; omega
    by_cases hlt : k < j - i
    · obtain ⟨b, off, rfl, hbl, hcx⟩ := HC.out (i + k) (by omega)
      have hx := HBd.out _ (List.getElem_mem (show i + k < l.runs.length by omega))
      have HS : Hid (((l.runs.drop i).take (k + 1)).sum = ((l.runs.drop i).take k).sum + l.runs[i + k]'(by omega)) := by
        show _ = _
        rw [sum_take_succ _ _ (by simp; omega)]; simp
      generalize ((l.runs.drop i).take k).sum = s0 at *
      generalize l.runs[i + k] = x at *
      have hb1 : 0 ≤ s0 ∧ s0 ≤ 360 := by omega
      obtain ⟨hb1, hb2⟩ := hb1
      obtain ⟨hx1, hx2⟩ := hx
      have h3 : ((i + k : Nat) : Int) < (j : Int) := by omega
      clear hbd hlen
      go_wp2_with fail
      go_round
      case rel => exact ⟨k + 1, by omega, by go_num, by rw [HS.out]⟩
      case measure => simp [RowKit.intOf]; omega
    · have he : k = j - i := by omega
      subst he
      have h3 : ¬ ((i + (j - i) : Nat) : Int) < (j : Int) := by omega
      go_wp2_with fail
      go_ret
      exact ⟨rfl, (Below.refl _ _).alloc (Nat.le_refl _) _⟩

set_option maxHeartbeats 1000000 in
theorem sumOf_any (v : Value) (xs : List Int) (w : World) (hr : RowAt w v (ints xs)) (hl : xs.length ≤ 6) (hb : ∀ r ∈ xs, 1 ≤ r ∧ r ≤ 60) :
    Calls Try.prog 105 #[v] w fun e w' => e = .returned (.int .i64 xs.sum) ∧ w = w' := by
  obtain ⟨a, c, rfl, hc, hm, HC⟩ := ints_open hr
  have HBd := Lib.hid hb
  clear hr hb
  go_enter Try.func105, Try.ntmps105
  go_wp2_with fail
  go_loop [3, 8] (fun s q => ∃ k : Nat, k ≤ xs.length ∧ q = .int .i64 k ∧ s = .int .i64 (xs.take k).sum) (fun _ q => xs.length - (RowKit.intOf q).toNat)
  case atStart => exact ⟨0, Nat.zero_le _, rfl, by simp⟩
  case round =>
    obtain ⟨k, hk, rfl, rfl⟩ := hrel
    have hbd := sum_bound (xs.take k) (fun x hx => HBd.out x (List.mem_of_mem_take hx))
    have hlen : (xs.take k).length ≤ 6 := by simp; omega
    by_cases hlt : k < xs.length
    · obtain ⟨b, off, rfl, hbl, hcx⟩ := HC.out k hlt
      have hx := HBd.out _ (List.getElem_mem hlt)
      have HS := Lib.hid (sum_take_succ xs k hlt)
      generalize (xs.take k).sum = s0 at *
      generalize xs[k] = x at *
      have hb1 : 0 ≤ s0 ∧ s0 ≤ 360 := by omega
      obtain ⟨hb1, hb2⟩ := hb1
      obtain ⟨hx1, hx2⟩ := hx
      clear hbd hlen
      go_wp2_with fail
      go_round
      case rel => exact ⟨k + 1, by omega, by go_num, by rw [HS.out]⟩
      case measure => simp [RowKit.intOf]; omega
    · have HS : Hid ((xs.take k).sum = xs.sum) := by show _ = _; rw [List.take_of_length_le (by omega)]
      go_wp2_with fail
      go_ret
      exact ⟨ret_int HS.out, rfl⟩
end Go.Proofs.Ytfgkfdkdjegaiaa

namespace Go.Proofs.Ytfgkfdkdjegaiaa
open Go.RowKit
set_option linter.unusedVariables false

theorem net_line {w : World} {a : Option Addr} {c : Nat} {a' : Option Addr} {c' : Nat} {n : NetD} (h : NetAt w (.agg #[.slice a n.stops.length c, .slice a' n.lines.length c']) n) (k : Nat) (hk : k < n.lines.length) :
    ∃ b off s0 s1 r0 r1, a' = some ⟨b, off, none⟩ ∧ b < w.heap.size ∧ w.cell? ⟨b, off + k * 3, none⟩ = some (.string n.lines[k].name) ∧ w.cell? ⟨b, off + k * 3 + 1, none⟩ = some (.slice s0 n.lines[k].stops.length s1) ∧ w.cell? ⟨b, off + k * 3 + 2, none⟩ = some (.slice r0 n.lines[k].runs.length r1) ∧
      RowAt w (.slice s0 n.lines[k].stops.length s1) (ints n.lines[k].stops) ∧ RowAt w (.slice r0 n.lines[k].runs.length r1) (ints n.lines[k].runs) := by
  obtain ⟨s, l, he, h1, h2⟩ := h
  simp at he
  obtain ⟨rfl, rfl⟩ := he
  obtain ⟨a2, c2, he, _, _, HC⟩ := lines_open h2
  simp at he
  obtain ⟨rfl, rfl⟩ := he
  obtain ⟨b, off, ha, hlt, hla⟩ := HC.out k hk
  obtain ⟨sv, rv, c0, c1, c2', r1, r2⟩ := hla
  obtain ⟨s0, s1, rfl⟩ := IntS_open r1
  obtain ⟨q0, q1, rfl⟩ := IntS_open r2
  exact ⟨b, off, s0, s1, q0, q1, ha, hlt, c0, c1, c2', r1, r2⟩
end Go.Proofs.Ytfgkfdkdjegaiaa

namespace Go.Proofs.Ytfgkfdkdjegaiaa
open Go.RowKit Jrn Go.Maps
set_option linter.unusedVariables false
set_option linter.unusedSimpArgs false

theorem IntSet.lt {b : Nat} {S : List Int} {w : World} (h : IntSet b S w) : b < w.heap.size := SetOf.lt h
end Go.Proofs.Ytfgkfdkdjegaiaa

namespace Go.Proofs.Ytfgkfdkdjegaiaa
open Go.RowKit
set_option linter.unusedVariables false

theorem ints_oneE (zs : List Int) : ∀ u ∈ ints zs, u.oneCell' = true := by
  intro u hu
  obtain ⟨q, _, rfl⟩ := List.mem_map.1 hu
  rfl
theorem litE0 {e : TypeId} {sz : Nat} (B : Nat) (w : World) (m : Nat) (hm : m = w.heap.size) (hB : B ≤ w.heap.size) : (w.alloc (.cells #[] e)).ownsRow B e sz (.slice (some ⟨m, 0, none⟩) 0 0) 0 [] := by
  subst hm; exact World.ownsRow_lit w #[] 0 hB (by decide) (by simp)
theorem own_someE {w : World} {B : Nat} {e : TypeId} {sz : Nat} {v : Value} {n : Nat} {xs : List Value} (h : w.ownsRow B e sz v n xs) (hn : 0 < n) : v.ownBlock ≠ none := by
  obtain ⟨_, h2⟩ := h
  rcases h2 with ⟨_, h0⟩ | ⟨g, cap, cur, hv, _⟩
  · omega
  · rw [hv]; simp [Value.ownBlock]
theorem one_keptE {W w : World} {row : Option Nat} {m : Nat} {l : List Value} (hg : W.grownBy w row) (h : ∀ j u, l[j]? = some u → W.cell? ((⟨m, 0, none⟩ : Addr).add j) = some u) (hne : row ≠ some m) : ∀ j u, l[j]? = some u → w.cell? ((⟨m, 0, none⟩ : Addr).add j) = some u := fun j u hu => by
  have h1 := h j u hu
  rw [addr_add] at h1 ⊢
  exact hg.cell h1 (fun e => hne e.symm)

theorem own_open {w : World} {B : Nat} {e : TypeId} {sz : Nat} {v : Value} {n : Nat} {xs : List Value} (h : w.ownsRow B e sz v n xs) (hv : v.ownBlock ≠ none) : ∃ g c, v = .slice (some ⟨g, 0, none⟩) n c ∧ n ≤ c ∧ c ≤ 9223372036854775807 ∧ g < w.heap.size ∧ B ≤ g ∧ ∀ j u, xs[j]? = some u → w.cell? ⟨g, j, none⟩ = some u := by
  have hc := fun g hg => h.cells (g := g) hg
  have hl := h.lt
  obtain ⟨_, h2⟩ := h
  rcases h2 with ⟨rfl, _⟩ | ⟨g, cap, cur, rfl, hg, _, h1, h3, _⟩
  · simp [Value.ownBlock] at hv
  · refine ⟨g, cap, rfl, h1, h3, (hl g rfl).2, hg, fun j u hu => ?_⟩
    have := hc g rfl j u hu
    rw [addr_add, Nat.zero_add] at this; exact this
def StAns (B : Nat) (r : List Int) (b : Bool) (e : Ending) (w' : World) : Prop := ∃ v', e = .returned (.tuple #[v', .bool b]) ∧ w'.ownsRow B 3 1 v' r.length (ints r)
theorem row_new (w : World) (B : Nat) (hB : B ≤ w.heap.size) : (w.alloc (.cells #[] 3)).ownsRow B 3 1 (.slice (some ⟨w.heap.size, 0, none⟩) 0 0) 0 (ints []) := by
  have h := World.ownsRow_lit (base := B) (e := 3) (size := 1) w #[] 0 hB (by decide) (by simp)
  simpa [ints] using h
end Go.Proofs.Ytfgkfdkdjegaiaa

namespace Go.Proofs.Ytfgkfdkdjegaiaa
open Go.RowKit
set_option linter.unusedVariables false

theorem wpList_append_run {P : Program} {w w' : World} {ops : Array Oper} {rest : List Oper} {o : Oper} {a : Act} {Q : Exit → Act → World → Prop} {v y v' : Value} (hg : o.guard = none) (s x : Operand) (t : TypeId)
    (ho : o.op = .call { callee := .builtin .append, args := #[s, x], argTypes := #[t, t] }) (hs : a.eval s = v) (hx : a.eval x = y) (hr : (Builtin.append_ #[t, t] o.type #[v, y]).run P w = .ok v' w')
    (hK : wpList P ops Q rest (a.put o.dst v') w') : wpList P ops Q (o :: rest) a w := by
  refine wpList_plain hg fun K' hK' => ?_
  unfold Oper.wp execOp
  simp only [ho, resolve, invoke, builtin, Sem.run_bind, Sem.run_pure, Result.andThen_ok, List.map_toArray, List.map_cons, List.map_nil, hs, hx, hr]
  exact hK' _ _ hK
end Go.Proofs.Ytfgkfdkdjegaiaa

namespace Go.Proofs.Ytfgkfdkdjegaiaa
open Go.RowKit Jrn
set_option linter.unusedVariables false
set_option linter.unusedSimpArgs false

theorem run_append_ints (w : World) (B n : Nat) (v : Value) (xs : List Int) (hown : w.ownsRow B 3 1 v n (ints xs)) (g off cap : Nat) (ys : List Int) (hy : RowAt w (.slice (some ⟨g, off, none⟩) ys.length cap) (ints ys)) (hn : n + ys.length ≤ 1048576) (hB : B ≤ w.heap.size) :
    ∃ v' w', (Builtin.append_ #[31, 31] 31 #[v, .slice (some ⟨g, off, none⟩) ys.length cap]).run Try.prog w = .ok v' w' ∧ w'.ownsRow B 3 1 v' (n + ys.length) (ints (xs ++ ys)) ∧ w.grownBy w' v.ownBlock ∧ (v'.ownBlock = v.ownBlock ∨ v'.ownBlock = some w.heap.size) := by
  obtain ⟨i, hi, hz0, hz1, hz2⟩ := info_parts infoInt
  obtain ⟨v', w', h1, h2, h3, -, h5⟩ := run_append_own_at (P := Try.prog) (w := w) B 31 31 3 i (.int .i64 0) 1 8 Try.underlying31 hi hz0 hz1 hz2 rfl (by decide) v n (ints xs) hown ⟨g, off, none⟩ ys.length cap (ints ys) (by rw [ints_len]; omega)
    (fun j u hu => by
      obtain ⟨_, _, he, _, _, hcell⟩ := hy
      simp [ints_len] at he
      obtain ⟨rfl, rfl⟩ := he
      obtain ⟨b', o', he, hlt, hc'⟩ := hcell j u hu
      simp at he
      obtain ⟨rfl, rfl⟩ := he
      rw [addr_add]; exact hc')
    (fun u hu => by obtain ⟨z, _, rfl⟩ := List.mem_map.1 hu; rfl) (by unfold maxLen; omega) (by omega) hB
  exact ⟨v', w', h1, by unfold ints at *; rw [List.map_append]; exact h2, h3, h5⟩

end Go.Proofs.Ytfgkfdkdjegaiaa
