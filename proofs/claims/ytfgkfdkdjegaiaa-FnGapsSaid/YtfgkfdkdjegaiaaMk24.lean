/-
  JOINED TEXTS, each under its own namespace line: StopTimes, WpRun, L8Arr, Contains, ServedP, ServedI, ServedS.
-/
import Derived.Test.YtfgkfdkdjegaiaaMk22
import Derived.Test.YtfgkfdkdjegaiaaMk23
import Derived.WalkKit
import Derived.Maps.Own
import Derived.Test.YtfgkfdkdjegaiaaMk03
import Derived.OrdersHeld
import Derived.Deep.RegionHeld
import Derived.Test.YtfgkfdkdjegaiaaRows
import Derived.Test.YtfgkfdkdjegaiaaInts
import Derived.Test.YtfgkfdkdjegaiaaMk04
import Derived.LoopTactic
import Derived.WalkLawsBesides
namespace Go.Proofs.Ytfgkfdkdjegaiaa
open Go.RowKit
set_option linter.unusedVariables false

/-- the stop times of the trip at a place -/
def stopL (t : TTD) (p : Nat) : List Int := match t.trips[p]? with
  | some x => match t.net.lines[x.line.toNat]? with
    | some l => tk x.start l.runs (l.runs.length + 1)
    | none => []
  | none => []
theorem stopL_at {t : TTD} {p k : Nat} (hp : p < t.trips.length) (hk : (t.trips[p]).line = k) (hkl : k < t.net.lines.length) : stopL t p = tk (t.trips[p]).start t.net.lines[k].runs (t.net.lines[k].runs.length + 1) := by
  unfold stopL; rw [List.getElem?_eq_getElem hp]; simp only [hk, Int.toNat_natCast, List.getElem?_eq_getElem hkl]
noncomputable def stF (t : TTD) (id : Int) : List Int × Bool := if TTGood t ∧ foundB id t.trips = true then (stopL t (placeOf id t.trips), true) else ([], false)
theorem keepE6' {W w w' : World} {p0 p1 p2 p3 p4 p5 : Addr} {x0 x1 x2 x3 x4 x5 : Value} (hb : Below w.heap.size w w') (h : w.cell? p0 = some x0 ∧ w.cell? p1 = some x1 ∧ w.cell? p2 = some x2 ∧ w.cell? p3 = some x3 ∧ w.cell? p4 = some x4 ∧ w.cell? p5 = some x5 ∧ Below W.heap.size W w) : w'.cell? p0 = some x0 ∧ w'.cell? p1 = some x1 ∧ w'.cell? p2 = some x2 ∧ w'.cell? p3 = some x3 ∧ w'.cell? p4 = some x4 ∧ w'.cell? p5 = some x5 ∧ Below W.heap.size W w' := keepE6 hb h
theorem belE6 {W w : World} {p0 p1 p2 p3 p4 p5 : Addr} {x0 x1 x2 x3 x4 x5 : Value} (h : w.cell? p0 = some x0 ∧ w.cell? p1 = some x1 ∧ w.cell? p2 = some x2 ∧ w.cell? p3 = some x3 ∧ w.cell? p4 = some x4 ∧ w.cell? p5 = some x5 ∧ Below W.heap.size W w) : Below W.heap.size W w := h.2.2.2.2.2.2

theorem st_in {w w' : World} {r : List Int} {b : Bool} {e : Ending} (h : StAns w.heap.size r b e w' ∧ Below w.heap.size w w') : ∃ v', e = .returned (.tuple #[v', .bool b]) ∧ IntsIn w.heap.size w'.heap.size w' v' r ∧ Below w.heap.size w w' := by
  obtain ⟨⟨v', he, ho⟩, hb⟩ := h
  exact ⟨v', he, IntsIn.mk ho, hb⟩
theorem stF_small (t : TTD) (id : Int) (hs : TTSmall t) : IntsSmall (stF t id).1 := by
  unfold stF
  split
  · rename_i h
    obtain ⟨hg, hfd⟩ := h
    obtain ⟨-, hpl⟩ := findI_found hg.Asc hfd
    obtain ⟨k, hk, hkl, -⟩ := hg.line _ hpl
    have := (line_facts hg.1 k hkl).2.1
    simp only [stopL_at hpl hk hkl, IntsSmall, tk_len]
    omega
  · simp [IntsSmall]
end Go.Proofs.Ytfgkfdkdjegaiaa

namespace Go.Proofs.Ytfgkfdkdjegaiaa
open Go.RowKit
set_option linter.unusedVariables false

theorem wpList_append_run {P : Program} {w w' : World} {ops : Array Oper} {rest : List Oper} {o : Oper} {a : Act} {Q : Exit → Act → World → Prop} {v y v' : Value} (hg : o.guard = none) (s x : Operand) (t : TypeId)
    (ho : o.op = .call { callee := .builtin .append, args := #[s, x], argTypes := #[t, t] }) (hs : a.eval s = v) (hx : a.eval x = y) (hr : (Builtin.append_ #[t, t] o.type #[v, y]).run P w = .ok v' w')
    (hK : wpList P ops Q rest (a.put o.dst v') w') : wpList P ops Q (o :: rest) a w := by
  refine wpList_plain hg fun K' hK' => ?_
  unfold Oper.wp execOp
  simp only [ho, resolve, invoke, builtin, Sem.run_bind, Sem.run_pure, Result.andThen_ok, List.map_toArray, List.map_cons, List.map_nil, hs, hx, hr]
  exact hK' _ _ hK
end Go.Proofs.Ytfgkfdkdjegaiaa

namespace Go.Proofs.Ytfgkfdkdjegaiaa
open Go.RowKit Jrn
set_option linter.unusedVariables false
set_option linter.unusedSimpArgs false

theorem gr_set (w : World) (g o : Nat) (u : Value) : w.grownBy (w.setCell ⟨g, o, none⟩ u) (some g) :=
  ⟨rfl, rfl, rfl, by simp [World.setCell], fun q hq hne => Below.heap_setCell _ _ _ _ (fun e => hne (by rw [e]))⟩
theorem set_self (xs : List Int) (i : Nat) : xs.set i (xs.getD i 0) = xs := by
  by_cases h : i < xs.length
  · rw [List.getD_eq_getElem?_getD, List.getElem?_eq_getElem h]; exact List.set_getElem_self h
  · exact List.set_eq_of_length_le (by omega)
/-! all times are in range -/
def InR (xs : List Int) : Prop := ∀ i, -1 ≤ xs.getD i 0 ∧ xs.getD i 0 ≤ 2400
theorem InR.set {xs : List Int} (h : InR xs) (i : Nat) {v : Int} (hv : -1 ≤ v ∧ v ≤ 2400) : InR (xs.set i v) := by
  intro j
  by_cases hi : i < xs.length
  · rw [getD_set _ _ _ _ hi]; split
    · exact hv
    · exact h j
  · rw [List.set_eq_of_length_le (by omega)]; exact h j
theorem nextT_in {best : List Int} {frm at_ wait : Int} {r : RideD} {next : List Int} (hn : InR next) (ht : ∀ x ∈ r.times, 0 ≤ x ∧ x ≤ 2400) (hl : r.times.length = r.stops.length) : ∀ k, k ≤ r.stops.length → InR (nextT best frm at_ wait r next k)
  | 0, _ => hn
  | k + 1, hk => by
    have ih := nextT_in (best := best) (frm := frm) (at_ := at_) (wait := wait) hn ht hl k (by omega)
    simp only [nextT]
    split
    · refine ih.set _ ?_
      have h1 := ht _ (getD_mem (xs := r.times) (k := k) (by omega))
      have h2 := ih (r.stops.getD k 0).toNat
      unfold lowF
      split <;> omega
    · exact ih
theorem roundT_in {best : List Int} {frm at_ wait : Int} {rs : List RideD} {N : Nat} (hn : InR best) (hok : RidesOk rs) (hin : RidesIn N rs) : ∀ i, i ≤ rs.length → InR (roundT best frm at_ wait rs i)
  | 0, _ => hn
  | i + 1, hi => by
    have ih := roundT_in (frm := frm) (at_ := at_) (wait := wait) hn hok hin i (by omega)
    have hlt : i < rs.length := by omega
    simp only [roundT, List.getElem?_eq_getElem hlt]
    exact nextT_in ih (hin.time _ (List.getElem_mem hlt)) (hok.each _ (List.getElem_mem hlt)).len _ (Nat.le_refl _)
theorem arrT_in {N : Nat} {rs : List RideD} {ch frm at_ : Int} (hok : RidesOk rs) (hin : RidesIn N rs) (h0 : 0 ≤ at_) (h1 : at_ ≤ 2400) : ∀ n, InR (arrT N rs ch frm at_ n)
  | 0 => by
    refine InR.set (fun i => ?_) _ (by omega)
    rw [List.getD_eq_getElem?_getD, List.getElem?_replicate]
    split <;> simp
  | n + 1 => roundT_in (arrT_in hok hin h0 h1 n) hok hin _ (Nat.le_refl _)
theorem run_append_ints (w : World) (B n : Nat) (v : Value) (xs : List Int) (hown : w.ownsRow B 3 1 v n (ints xs)) (g off cap : Nat) (ys : List Int) (hy : RowAt w (.slice (some ⟨g, off, none⟩) ys.length cap) (ints ys)) (hn : n + ys.length ≤ 1048576) (hB : B ≤ w.heap.size) :
    ∃ v' w', (Builtin.append_ #[31, 31] 31 #[v, .slice (some ⟨g, off, none⟩) ys.length cap]).run Try.prog w = .ok v' w' ∧ w'.ownsRow B 3 1 v' (n + ys.length) (ints (xs ++ ys)) ∧ w.grownBy w' v.ownBlock ∧ (v'.ownBlock = v.ownBlock ∨ v'.ownBlock = some w.heap.size) := by
  obtain ⟨i, hi, hz0, hz1, hz2⟩ := info_parts infoInt
  obtain ⟨v', w', h1, h2, h3, -, h5⟩ := run_append_own_at (P := Try.prog) (w := w) B 31 31 3 i (.int .i64 0) 1 8 Try.underlying31 hi hz0 hz1 hz2 rfl (by decide) v n (ints xs) hown ⟨g, off, none⟩ ys.length cap (ints ys) (by rw [ints_len]; omega)
    (fun j u hu => by
      obtain ⟨_, _, he, _, _, hcell⟩ := hy
      simp [ints_len] at he
      obtain ⟨rfl, rfl⟩ := he
      obtain ⟨b', o', he, hlt, hc'⟩ := hcell j u hu
      simp at he
      obtain ⟨rfl, rfl⟩ := he
      rw [addr_add]; exact hc')
    (fun u hu => by obtain ⟨z, _, rfl⟩ := List.mem_map.1 hu; rfl) (by unfold maxLen; omega) (by omega) hB
  exact ⟨v', w', h1, by unfold ints at *; rw [List.map_append]; exact h2, h3, h5⟩

end Go.Proofs.Ytfgkfdkdjegaiaa

namespace Go.Proofs.Ytfgkfdkdjegaiaa
open Go.RowKit
set_option linter.unusedVariables false

theorem indexInt_any (v : Value) (xs : List Int) (x : Int) (w : World) (hr : RowAt w v (ints xs)) :
    Calls Try.prog 98 #[v, .int .i64 x] w fun e w' => e = .returned (.int .i64 (fstIdx x xs)) ∧ w = w' := by
  obtain ⟨a, c, rfl, hc, hm, HC⟩ := ints_open hr
  clear hr
  go_enter Try.func98, Try.ntmps98
  go_wp2
  go_loop [8] (fun i => ∃ k : Nat, k ≤ xs.length ∧ i = .int .i64 k ∧ Hid (x ∉ xs.take k)) (fun i => xs.length - (RowKit.intOf i).toNat)
  case atStart => exact ⟨0, Nat.zero_le _, rfl, by show _ ∉ _; simp⟩
  case round =>
    obtain ⟨k, hk, rfl, HN⟩ := hrel
    by_cases hlt : k < xs.length
    · obtain ⟨b, off, rfl, _, hcx⟩ := HC.out k hlt
      by_cases he : xs[k] = x
      · have HF := Lib.hid (fstIdx_hit k hlt he HN.out)
        have hb : (x == xs[k]) = true := by simp [he]
        clear he
        generalize xs[k] = y at *
        go_wp2
        go_ret
        exact ⟨ret_int HF.out.symm, rfl⟩
      · have HN2 := Lib.hid (not_take_succ hlt HN.out he)
        have hb : (x == xs[k]) = false := by simp; exact fun e => he e.symm
        clear he
        generalize xs[k] = y at *
        go_wp2
        go_round
        case rel => exact ⟨k + 1, by omega, by go_num, HN2⟩
        case measure => simp [RowKit.intOf]; omega
    · have HF := Lib.hid (fstIdx_none (not_take_all (by omega) HN.out))
      go_wp2
      go_ret
      exact ⟨ret_int HF.out.symm, rfl⟩
end Go.Proofs.Ytfgkfdkdjegaiaa

namespace Go.Proofs.Ytfgkfdkdjegaiaa
open Go.RowKit Go.Maps Jrn
set_option linter.unusedVariables false
set_option linter.unusedSimpArgs false

/-- the stops behind the first one of a leg, up to its last one -/
def segR (r : RideD) (l : LegD) : List Int := (r.stops.drop (r.stops.idxOf l.frm + 1)).take (r.stops.idxOf l.dst - r.stops.idxOf l.frm)
def segOf (t : TTD) (l : LegD) : List Int := segR (rideOf t (t.trips.getD (placeOf l.trip t.trips) ⟨0, 0, 0⟩)) l
def svF (t : TTD) (c : List LegD) : Nat → List Int
  | 0 => []
  | k + 1 => svF t c k ++ segOf t (c.getD k ⟨0, 0, 0, 0, 0⟩)
noncomputable def svAns (t : TTD) (ch : Int) (c : List LegD) : List Int := if ansJ t ch c then [(firstL c).frm] ++ svF t c c.length else []
theorem seg_at {t : TTD} (hg : TTGood t) {l : LegD} (hl : l ∈ allLegs (rides t)) : ∃ i, ∃ hi : i < t.trips.length, ∃ A B : Nat, placeOf l.trip t.trips = i ∧ foundB l.trip t.trips = true ∧ A < B ∧ B < (rideOf t t.trips[i]).stops.length ∧
    fstIdx l.frm (rideOf t t.trips[i]).stops = A ∧ fstIdx l.dst (rideOf t t.trips[i]).stops = B ∧ (rideOf t t.trips[i]).stops.getD A 0 = l.frm ∧ segOf t l = ((rideOf t t.trips[i]).stops.drop (A + 1)).take (B - A) ∧ fstIdx l.dst ((rideOf t t.trips[i]).stops.drop (A + 1)) = ((B - (A + 1) : Nat) : Int) := by
  have hf := fillF_of (rides_ok hg) hl
  cases hfd : foundB l.trip t.trips with
  | false => rw [fill_nofind hg hfd] at hf; cases hf
  | true =>
    obtain ⟨hfi, hpl⟩ := findI_found hg.Asc hfd
    have hid : (t.trips[placeOf l.trip t.trips]'hpl).id = l.trip := by
      have := foundB_at (id := l.trip) hpl
      rw [hfd] at this
      exact of_decide_eq_true this.symm
    obtain ⟨r, hr, A, B, hAB, hB, rfl⟩ := mem_allLegs.1 hl
    have hrr : r = rideOf t (t.trips[placeOf (legR r A B).trip t.trips]'hpl) := (rides_ok hg).id_eq hr (mem_rides hpl) (by have e2 : (rideOf t (t.trips[placeOf (legR r A B).trip t.trips]'hpl)).id = (t.trips[placeOf (legR r A B).trip t.trips]'hpl).id := rfl; rw [e2, hid]; rfl)
    have hnd := ((rides_ok hg).each _ hr).nodup
    have hA : A < r.stops.length := by omega
    have eA : r.stops.idxOf (r.stops.getD A 0) = A := idx_get hnd hA
    have eB : r.stops.idxOf (r.stops.getD B 0) = B := idx_get hnd hB
    have mA : r.stops.getD A 0 ∈ r.stops := getD_mem hA
    have mB : r.stops.getD B 0 ∈ r.stops := getD_mem hB
    refine ⟨placeOf (legR r A B).trip t.trips, hpl, A, B, rfl, rfl, hAB, ?_⟩
    rw [← hrr]
    refine ⟨hB, ?_, ?_, rfl, ?_, ?_⟩
    · show fstIdx (r.stops.getD A 0) r.stops = A
      unfold fstIdx; rw [if_pos mA, eA]
    · show fstIdx (r.stops.getD B 0) r.stops = B
      unfold fstIdx; rw [if_pos mB, eB]
    · unfold segOf
      rw [List.getD_eq_getElem?_getD, List.getElem?_eq_getElem hpl]
      show segR (rideOf t (t.trips[placeOf (legR r A B).trip t.trips]'hpl)) _ = _
      rw [← hrr]
      unfold segR
      show (r.stops.drop (r.stops.idxOf (r.stops.getD A 0) + 1)).take (r.stops.idxOf (r.stops.getD B 0) - r.stops.idxOf (r.stops.getD A 0)) = _
      rw [eA, eB]
    · show fstIdx (r.stops.getD B 0) (r.stops.drop (A + 1)) = _
      have hl : B - (A + 1) < (r.stops.drop (A + 1)).length := by rw [List.length_drop]; omega
      have hn2 : (r.stops.drop (A + 1)).Nodup := hnd.sublist (List.drop_sublist _ _)
      have e : (r.stops.drop (A + 1))[B - (A + 1)] = r.stops.getD B 0 := by
        rw [List.getElem_drop, List.getD_eq_getElem?_getD, List.getElem?_eq_getElem hB]
        simp only [show A + 1 + (B - (A + 1)) = B by omega]; rfl
      have := (nodup_first _).1 hn2 (B - (A + 1)) hl
      rw [e] at this
      exact this
theorem svF_succ {t : TTD} {c : List LegD} {k : Nat} (hk : k < c.length) : svF t c (k + 1) = svF t c k ++ segOf t c[k] := by
  show svF t c k ++ segOf t (c.getD k ⟨0, 0, 0, 0, 0⟩) = _
  rw [List.getD_eq_getElem?_getD, List.getElem?_eq_getElem hk]; rfl
theorem seg_len {t : TTD} (hg : TTGood t) {l : LegD} (hl : l ∈ allLegs (rides t)) : (segOf t l).length ≤ 6 := by
  obtain ⟨i, hi, A, B, h1, h2, h3, h4, h5, h6, h7, h8, h9⟩ := seg_at hg hl
  have := ride_bounds hg i hi
  rw [h8, List.length_take, List.length_drop]; omega
theorem svF_len {t : TTD} (hg : TTGood t) {c : List LegD} (hc : ∀ k (hk : k < c.length), c[k] ∈ allLegs (rides t)) : ∀ k, k ≤ c.length → (svF t c k).length ≤ 6 * k
  | 0, _ => by simp [svF]
  | k + 1, hk => by
    have ih := svF_len hg hc k (by omega)
    have := seg_len hg (hc k hk)
    rw [svF_succ hk, List.length_append]; omega
theorem jrn_mem {L : List LegD} {ch : Int} {c : List LegD} (h : JrnOk L ch c) : ∀ k (hk : k < c.length), c[k] ∈ L := fun k hk => (h.2.2 k hk hk).1
theorem svAns_small {t : TTD} {ch : Int} {c : List LegD} : IntsSmall (svAns t ch c) := by
  unfold svAns
  split
  · rename_i h
    obtain ⟨hg, -, hj⟩ := ansJ_iff h
    have := svF_len hg (jrn_mem hj) c.length (Nat.le_refl _)
    have := hj.2.1
    simp only [IntsSmall, List.length_append, List.length_singleton]; omega
  · simp [IntsSmall]
theorem rowAt_dropI {w : World} {b off : Nat} {xs : List Int} {c k : Nat} (h : RowAt w (.slice (some ⟨b, off, none⟩) xs.length c) (ints xs)) (hk : k ≤ xs.length) : RowAt w (.slice (some ⟨b, off + k, none⟩) (xs.length - k) (c - k)) (ints (xs.drop k)) := by
  obtain ⟨a', c', hv, hc, hm, hcell⟩ := h
  simp at hv
  obtain ⟨rfl, _, rfl⟩ := hv
  rw [ints_len] at hc
  refine ⟨_, _, by rw [ints_len, List.length_drop], by rw [ints_len, List.length_drop]; omega, by omega, fun j u hu => ?_⟩
  have e : ints (xs.drop k) = (ints xs).drop k := by simp [ints, List.map_drop]
  rw [e, List.getElem?_drop] at hu
  obtain ⟨b', o', he, h1, h2⟩ := hcell (k + j) u hu
  simp at he
  obtain ⟨rfl, rfl⟩ := he
  exact ⟨_, _, rfl, h1, by rw [show off + k + j = off + (k + j) by omega]; exact h2⟩
theorem rowAt_takeI {w : World} {a : Option Addr} {xs : List Int} {c k : Nat} (h : RowAt w (.slice a xs.length c) (ints xs)) (hk : k ≤ xs.length) : RowAt w (.slice a k c) (ints (xs.take k)) := by
  obtain ⟨a', c', hv, hc, hm, hcell⟩ := h
  simp at hv
  obtain ⟨rfl, _, rfl⟩ := hv
  rw [ints_len] at hc
  refine ⟨a, c, by rw [ints_len]; simp; omega, by rw [ints_len]; simp; omega, hm, fun j u hu => ?_⟩
  have e : ints (xs.take k) = (ints xs).take k := by simp [ints, List.map_take]
  rw [e, List.getElem?_take] at hu
  split at hu
  · exact hcell j u hu
  · cases hu

end Go.Proofs.Ytfgkfdkdjegaiaa

namespace Go.Proofs.Ytfgkfdkdjegaiaa
open Go.RowKit Go.Maps Jrn
set_option linter.unusedVariables false
set_option linter.unusedSimpArgs false

end Go.Proofs.Ytfgkfdkdjegaiaa

namespace Go.Proofs.Ytfgkfdkdjegaiaa
open Go.RowKit Go.Maps Jrn
set_option linter.unusedVariables false
set_option linter.unusedSimpArgs false

/-- a box for a line, as it is made -/
def Z3 (w : World) (B : Nat) : Prop := w.cell? ⟨B, 0, none⟩ = some (.string ⟨#[]⟩) ∧ w.cell? ⟨B, 1, none⟩ = some (.slice none 0 0) ∧ w.cell? ⟨B, 2, none⟩ = some (.slice none 0 0) ∧ B < w.heap.size ∧ ∀ o, w.frozen? ⟨B, o, none⟩ = false
theorem Z3.later {w w' : World} {B : Nat} (h : Z3 w B) (hb : Below w.heap.size w w') : Z3 w' B := by
  obtain ⟨h0, h1, h2, hl, hf⟩ := h
  exact ⟨bkeep hb h0, bkeep hb h1, bkeep hb h2, Nat.lt_of_lt_of_le hl hb.size, fun o => (World.frozen?_of_block (a := ⟨B, o, none⟩) (hb.block B hl)).trans (hf o)⟩
theorem Z3.new (w : World) : Z3 (w.alloc (.cells #[.string ⟨#[]⟩, .slice none 0 0, .slice none 0 0] 98)) w.heap.size :=
  ⟨by go_simp, by go_simp, by go_simp, by simp, fun o => by unfold World.frozen?; rw [(MapKept.heap_alloc w _).1]; simp⟩
/-- the model's list behind the first k legs -/
def spL (t : TTD) (cs : List LegD) (f0 : Int) (k : Nat) : List Int := if k = 0 then [] else [f0] ++ svF t cs k
theorem spL_succ (t : TTD) (cs : List LegD) (f0 : Int) (k : Nat) : spL t cs f0 (k + 1) = [f0] ++ svF t cs (k + 1) := if_neg (by omega)

end Go.Proofs.Ytfgkfdkdjegaiaa
