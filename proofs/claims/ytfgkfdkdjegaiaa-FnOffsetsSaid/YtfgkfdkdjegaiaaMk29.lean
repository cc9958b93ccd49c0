/-
  JOINED TEXTS, each under its own namespace line: StopNumber, RestOf.
-/
import Derived.Test.YtfgkfdkdjegaiaaMk10
import Derived.Test.YtfgkfdkdjegaiaaMk12
import Derived.Test.YtfgkfdkdjegaiaaMk27
import Derived.Test.YtfgkfdkdjegaiaaMk11
import Derived.Test.YtfgkfdkdjegaiaaPatGood
import Derived.RegionTactic
import Derived.BigRegion
namespace Go.Proofs.Ytfgkfdkdjegaiaa
open Go.RowKit
set_option linter.unusedVariables false

theorem foundAt_yes (r : Int) (w : World) (h : 0 ≤ r) : Calls Try.prog 104 #[.int .i64 r] w fun e w' => e = .returned (.tuple #[.int .i64 r, .bool true]) ∧ w = w' := by
  go_enter Try.func104, Try.ntmps104
  go_wp2
  go_ret2
  exact ⟨rfl, rfl⟩
theorem foundAt_no (r : Int) (w : World) (h : r < 0) : Calls Try.prog 104 #[.int .i64 r] w fun e w' => e = .returned (.tuple #[.int .i64 0, .bool false]) ∧ w = w' := by
  go_enter Try.func104, Try.ntmps104
  go_wp2
  go_ret2
  exact ⟨rfl, rfl⟩

end Go.Proofs.Ytfgkfdkdjegaiaa

namespace Go.Proofs.Ytfgkfdkdjegaiaa
open Go.RowKit
set_option linter.unusedVariables false
set_option linter.unusedSimpArgs false

theorem row_take {w : World} {a : Option Addr} {xs : List Int} {c j : Nat} (h : RowAt w (.slice a xs.length c) (ints xs)) (hj : j ≤ xs.length) : RowAt w (.slice a j c) (ints (xs.take j)) := by
  obtain ⟨a', c', hv, hc, hm, hcell⟩ := h
  simp at hv
  obtain ⟨rfl, _, rfl⟩ := hv
  rw [ints_len] at hc
  refine ⟨a, c, by rw [ints_len, List.length_take, Nat.min_eq_left hj], by rw [ints_len, List.length_take]; omega, hm, fun k u hu => ?_⟩
  refine hcell k u ?_
  rw [ints, List.map_take, List.getElem?_take] at hu
  split at hu
  · exact hu
  · cases hu
theorem runSum_take (l : LineD) (k : Nat) : runSum l 0 k = (l.runs.take k).sum := by simp [runSum]
theorem pat_line {n : NetD} {p : Int} {x : PatternD} (h : PatEach n p x) : ∃ k : Nat, x.line = k ∧ k < n.lines.length := by
  obtain ⟨k, hk⟩ := Int.eq_ofNat_of_zero_le h.1.1
  exact ⟨k, hk, by have := h.1.2; omega⟩
def restT (r : Int) : Value := if r < 0 then .tuple #[.int .i64 0, .bool false] else .tuple #[.int .i64 r, .bool true]
theorem restT_no {r : Int} (h : r < 0) : restT r = .tuple #[.int .i64 0, .bool false] := if_pos h
theorem restT_yes {r : Int} (h : 0 ≤ r) : restT r = .tuple #[.int .i64 r, .bool true] := if_neg (by omega)

theorem keepR6 {W w w' : World} {p0 p1 p2 p3 p4 p5 : Addr} {x0 x1 x2 x3 x4 x5 : Value} (hb : Below w.heap.size w w') (h : w.cell? p0 = some x0 ∧ w.cell? p1 = some x1 ∧ w.cell? p2 = some x2 ∧ w.cell? p3 = some x3 ∧ w.cell? p4 = some x4 ∧ w.cell? p5 = some x5 ∧ Below W.heap.size W w) :
    w'.cell? p0 = some x0 ∧ w'.cell? p1 = some x1 ∧ w'.cell? p2 = some x2 ∧ w'.cell? p3 = some x3 ∧ w'.cell? p4 = some x4 ∧ w'.cell? p5 = some x5 ∧ Below W.heap.size W w' := by
  obtain ⟨h0, h1, h2, h3, h4, h5, h6⟩ := h
  exact ⟨bkeep hb h0, bkeep hb h1, bkeep hb h2, bkeep hb h3, bkeep hb h4, bkeep hb h5, h6.trans (hb.mono h6.size)⟩
theorem belR6 {W w : World} {p0 p1 p2 p3 p4 p5 : Addr} {x0 x1 x2 x3 x4 x5 : Value} (h : w.cell? p0 = some x0 ∧ w.cell? p1 = some x1 ∧ w.cell? p2 = some x2 ∧ w.cell? p3 = some x3 ∧ w.cell? p4 = some x4 ∧ w.cell? p5 = some x5 ∧ Below W.heap.size W w) : Below W.heap.size W w := h.2.2.2.2.2.2

set_option maxRecDepth 100000 in
set_option maxHeartbeats 8000000 in
theorem restOf_any (nv : Value) (n : NetD) (p : Int) (x : PatternD) (stop : Int) (w : World) (hr : NetAt w nv n) (hg : NetGood n) (hp : 1 ≤ p ∧ p ≤ 60) (hx : PatEach n p x) :
    Calls Try.prog 78 #[nv, .int .i64 p, patV x, .int .i64 stop] w fun e w' => e = .returned (restT (restI n p x stop)) ∧ Below w.heap.size w w' := by
  obtain ⟨k, hk, hkl⟩ := pat_line hx
  have hl := good_line hg k hkl
  have hln := lnI_at hk hkl
  obtain ⟨a, c, a', c', rfl, -, -⟩ := net_open hr
  obtain ⟨lb, lo, s0, s1, r0, r1, rfl, hlb, x0, x1, x2, hrs, hrr⟩ := net_line hr k hkl
  have hrl : n.lines[k].runs.length ≤ 6 := by have := hl.2.1; omega
  have hrl1 : 1 ≤ n.lines[k].runs.length := by have := hl.2.1; omega
  obtain ⟨q0, q1, he, hq1, hq2, HC⟩ := ints_open hrr
  simp at he
  obtain ⟨rfl, rfl⟩ := he
  obtain ⟨rb, ro, rfl, -, -⟩ := HC.out 0 (by omega)
  have HI := Lib.hid (fun W (hW : Below w.heap.size w W) => indexInt_any _ n.lines[k].stops stop W (hrs.below rfl hW))
  have HS := Lib.hid (fun j (hj : j ≤ n.lines[k].runs.length) W (hW : Below w.heap.size w W) => sumOf_any _ (n.lines[k].runs.take j) W (row_take (hrr.below rfl hW) hj) (by simp; omega) (fun r h => hl.2.2.2.2 r (List.mem_of_mem_take h)))
  have hsum := fun j => sum_bound (n.lines[k].runs.take j) (fun r h => hl.2.2.2.2 r (List.mem_of_mem_take h))
  have HNo := Lib.hid (fun h => rest_no (n := n) (p := p) (x := x) (stop := stop) h)
  have HYes := Lib.hid (fun j h => rest_yes (n := n) (p := p) (x := x) (stop := stop) (k := j) h)
  rw [hln] at HNo HYes
  have hpl := fstIdx_lt stop n.lines[k].stops
  have hll : n.lines[k].runs.length + 1 = n.lines[k].stops.length := hl.2.1.2.2
  have hk1 : (k : Int) < (n.lines.length : Int) := by omega
  have hxo := hx.2
  clear hr hrs hrr hg hx hln HC hl
  obtain ⟨xl, xo⟩ := x
  simp only at hk hxo HYes HNo
  subst hk
  unfold patV
  simp only
  generalize restI n p ⟨(k : Int), xo⟩ stop = rr at *
  generalize n.lines[k] = l at *
  have hp0 : ¬ p = 0 := by omega
  have hp0' : (p == 0) = false := by simp; omega
  go_enter Try.func78, Try.ntmps78
  go_wp2_with fail
  obtain ⟨w1, hw1⟩ : ∃ w1 : World, w1 = ((w.alloc (.cells #[.slice a n.stops.length c, .slice (some ⟨lb, lo, none⟩) n.lines.length c'] 27)).alloc (.cells #[.int .i64 (k : Int), .int .i64 xo] 45)).alloc (.cells #[.string l.name, .slice s0 l.stops.length s1, .slice (some ⟨rb, ro, none⟩) l.runs.length r1] 98) := ⟨_, rfl⟩
  have hb1 : Below w.heap.size w w1 := by rw [hw1]; exact (((Below.refl _ _).alloc (Nat.le_refl _) _).alloc (by simp) _).alloc (by simp; omega) _
  have y1 : w1.cell? ⟨w.heap.size + 1, 1, none⟩ = some (.int .i64 xo) := by rw [hw1]; go_simp
  have y2 : w1.cell? ⟨w.heap.size + 1 + 1, 2, none⟩ = some (.slice (some ⟨rb, ro, none⟩) l.runs.length r1) := by rw [hw1]; go_simp
  rw [← hw1]
  clear hw1
  go_at_call 98
  refine (HI.out _ hb1).mono ?_
  rintro e w2 ⟨rfl, rfl⟩
  by_cases hi : fstIdx stop l.stops < 0
  · have HR := Lib.hid (HNo.out hi)
    go_wp2_with (go_at_call 104; refine (foundAt_no _ _ hi).mono ?_; rintro e w2 ⟨rfl, rfl⟩)
    go_ret2
    exact ⟨by rw [HR.out]; rfl, hb1⟩
  · obtain ⟨j, hj⟩ := Int.eq_ofNat_of_zero_le (show 0 ≤ fstIdx stop l.stops by omega)
    have HR := Lib.hid (HYes.out j hj)
    rw [hj] at hpl ⊢
    have hjl : j ≤ l.runs.length := by omega
    have HSj := Lib.hid (HS.out j hjl)
    have HT := Lib.hid (runSum_take l j)
    have hs := hsum j
    have hs2 : ((l.runs.take j).length : Int) ≤ 6 := by simp; omega
    rw [HT.out] at HR
    generalize (l.runs.take j).sum = rs at *
    have hw : IntKind.i64.wrap (xo + rs) = xo + rs := IntWalk.i64_in _ (by omega)
    have htm : (xo + rs).tmod p = (xo + rs) % p := Int.tmod_eq_emod_of_nonneg (by omega)
    have hm0 := Int.emod_nonneg (xo + rs) hp0
    have hm1 := Int.emod_lt_of_pos (xo + rs) (show 0 < p by omega)
    have hw2 : IntKind.i64.wrap ((xo + rs) % p) = (xo + rs) % p := IntWalk.i64_in _ (by omega)
    have hj1 : (j : Int) ≤ (l.runs.length : Int) := by omega
    have hj2 : (j : Int) ≤ (r1 : Int) := by omega
    have hj0 : (0 : Int) ≤ (j : Int) := by omega
    clear HS HYes HNo HI hsum hi hj
    go_wp2_with (go_at_call 104; refine (foundAt_yes _ _ hj0).mono ?_; rintro e w2 ⟨rfl, rfl⟩)
    go_quiet ((go_at_call 105; exact quietL (HSj.out _ (hb1.trans ((Dr.below ⟨_, rfl⟩).mono hb1.size)))))
    go_wp2_with fail
    go_ret2
    exact ⟨by rw [HR.out, restT_yes hm0]; rfl, below_drewN hb1 _⟩

set_option maxRecDepth 100000 in
set_option maxHeartbeats 8000000 in
theorem l10Rest_any (nv : Value) (n : NetD) (p : Int) (x : PatternD) (stop : Int) (w : World) (hr : NetAt w nv n) (hg : NetGood n) (hp : 1 ≤ p ∧ p ≤ 60) (hx : PatEach n p x) :
    Calls Try.prog 82 #[nv, .int .i64 p, patV x, .int .i64 stop] w fun e w' => e = .returned (.int .i64 (restI n p x stop)) ∧ Below w.heap.size w w' := by
  obtain ⟨k, hk, hkl⟩ := pat_line hx
  have hl := good_line hg k hkl
  have hln := lnI_at hk hkl
  obtain ⟨a, c, a', c', rfl, -, -⟩ := net_open hr
  obtain ⟨lb, lo, s0, s1, r0, r1, rfl, hlb, x0, x1, x2, hrs, hrr⟩ := net_line hr k hkl
  have hlv : LineV w (.agg #[.string n.lines[k].name, .slice s0 n.lines[k].stops.length s1, .slice r0 n.lines[k].runs.length r1]) n.lines[k] := ⟨_, _, rfl, hrs, hrr⟩
  have HPl := Lib.hid (fun W (hW : Below w.heap.size w W) => l2Place_any _ n.lines[k] stop W (hlv.below rfl hW))
  have HS := Lib.hid (fun j (hj : j ≤ n.lines[k].runs.length) W (hW : Below w.heap.size w W) => l2Run_any _ n.lines[k] 0 j W (hlv.below rfl hW) (Nat.zero_le _) hj (by have := hl.2.1; omega) hl.2.2.2.2)
  have hsum := fun j => sum_bound (n.lines[k].runs.take j) (fun r h => hl.2.2.2.2 r (List.mem_of_mem_take h))
  have HNo := Lib.hid (fun h => rest_no (n := n) (p := p) (x := x) (stop := stop) h)
  have HYes := Lib.hid (fun j h => rest_yes (n := n) (p := p) (x := x) (stop := stop) (k := j) h)
  rw [hln] at HNo HYes
  have hpl := fstIdx_lt stop n.lines[k].stops
  have hrl : n.lines[k].runs.length ≤ 6 := by have := hl.2.1; omega
  have hll : n.lines[k].runs.length + 1 = n.lines[k].stops.length := hl.2.1.2.2
  have hk1 : (k : Int) < (n.lines.length : Int) := by omega
  have hxo := hx.2
  clear hr hrs hrr hg hx hln hl hlv
  obtain ⟨xl, xo⟩ := x
  simp only at hk hxo HYes HNo
  subst hk
  unfold patV
  simp only
  generalize restI n p ⟨(k : Int), xo⟩ stop = rr at *
  generalize n.lines[k] = l at *
  have hp0 : ¬ p = 0 := by omega
  have hp0' : (p == 0) = false := by simp; omega
  obtain ⟨F, hF⟩ : ∃ F, fstIdx stop l.stops = F := ⟨_, rfl⟩
  rw [hF] at HPl HNo hpl
  have HF := Lib.hid hF
  clear hF
  go_enter Try.func82, Try.ntmps82
  go_wp2_with fail
  obtain ⟨w1, hw1⟩ : ∃ w1 : World, w1 = (w.alloc (.cells #[.slice a n.stops.length c, .slice (some ⟨lb, lo, none⟩) n.lines.length c'] 27)).alloc (.cells #[.int .i64 (k : Int), .int .i64 xo] 45) := ⟨_, rfl⟩
  have hb1 : Below w.heap.size w w1 := by rw [hw1]; exact ((Below.refl _ _).alloc (Nat.le_refl _) _).alloc (by simp) _
  have y0 : w1.cell? ⟨w.heap.size, 1, none⟩ = some (.slice (some ⟨lb, lo, none⟩) n.lines.length c') := by rw [hw1]; go_simp
  have y1 : w1.cell? ⟨w.heap.size + 1, 0, none⟩ = some (.int .i64 (k : Int)) := by rw [hw1]; go_simp
  have y2 : w1.cell? ⟨w.heap.size + 1, 1, none⟩ = some (.int .i64 xo) := by rw [hw1]; go_simp
  have y3 := bkeep hb1 x0
  have y4 := bkeep hb1 x1
  have y5 := bkeep hb1 x2
  rw [← hw1]
  clear hw1
  go_at_call 81
  refine (HPl.out _ hb1).mono ?_
  rintro e w2 ⟨rfl, hb2⟩
  have y0 := bkeep hb2 y0
  have y1 := bkeep hb2 y1
  have y2 := bkeep hb2 y2
  have y3 := bkeep hb2 y3
  have y4 := bkeep hb2 y4
  have y5 := bkeep hb2 y5
  have hb2 : Below w.heap.size w w2 := hb1.trans (hb2.mono hb1.size)
  clear HPl hb1
  by_cases hi : F < 0
  · have HR := Lib.hid (HNo.out hi)
    clear HNo HYes HS
    go_wp2_with fail
    go_ret
    exact ⟨ret_int HR.out.symm, hb2⟩
  · obtain ⟨j, rfl⟩ := Int.eq_ofNat_of_zero_le (show 0 ≤ F by omega)
    have HR := Lib.hid (HYes.out j HF.out)
    have hjl : j ≤ l.runs.length := by omega
    have HSj := Lib.hid (HS.out j hjl)
    have hs := hsum j
    rw [← runSum_take] at hs
    have hs2 : ((l.runs.take j).length : Int) ≤ 6 := by simp; omega
    generalize runSum l 0 j = rs at *
    have hw : IntKind.i64.wrap (xo + rs) = xo + rs := IntWalk.i64_in _ (by omega)
    have htm : (xo + rs).tmod p = (xo + rs) % p := Int.tmod_eq_emod_of_nonneg (by omega)
    have hm0 := Int.emod_nonneg (xo + rs) hp0
    have hm1 := Int.emod_lt_of_pos (xo + rs) (show 0 < p by omega)
    have hw2 : IntKind.i64.wrap ((xo + rs) % p) = (xo + rs) % p := IntWalk.i64_in _ (by omega)
    have hi2 : ¬ (j : Int) < 0 := by omega
    clear HS HYes HNo hsum hi x0 x1 x2
    go_wp2_with fail
    go_region_held3 (fun w' => w'.cell? ⟨w.heap.size, 1, none⟩ = some (.slice (some ⟨lb, lo, none⟩) n.lines.length c') ∧ w'.cell? ⟨w.heap.size + 1, 0, none⟩ = some (.int .i64 (k : Int)) ∧ w'.cell? ⟨w.heap.size + 1, 1, none⟩ = some (.int .i64 xo) ∧ w'.cell? ⟨lb, lo + k * 3, none⟩ = some (.string l.name) ∧ w'.cell? ⟨lb, lo + k * 3 + 1, none⟩ = some (.slice s0 l.stops.length s1) ∧ w'.cell? ⟨lb, lo + k * 3 + 2, none⟩ = some (.slice r0 l.runs.length r1) ∧ Below w.heap.size w w')
      (first | (exact ⟨y0, y1, y2, y3, y4, y5, hb2.drew⟩) | (exact keepR6 hb (by assumption)))
      ((go_at_call 106; refine (HSj.out _ (belR6 (by assumption))).mono ?_; rintro e w' ⟨rfl, hb⟩))
    all_goals
      obtain ⟨-, -, -, -, -, -, qb⟩ := (by assumption : _ ∧ _)
      clear y0 y1 y2 y3 y4 y5
      go_wp2_with fail
      go_ret
      exact ⟨ret_int (by rw [HR.out]), qb⟩
end Go.Proofs.Ytfgkfdkdjegaiaa
