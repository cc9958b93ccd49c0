/-
  JOINED TEXTS, each under its own namespace line: RunBase, TimeB, NetLine.
-/
import Derived.Test.YtehpeifaknbcnaaMk22
import Derived.Test.YtehpeifaknbcnaaMk14
import Derived.Test.YtehpeifaknbcnaaMk01
namespace Go.Proofs.Ytehpeifaknbcnaa
open Go.RowKit
set_option linter.unusedVariables false

def runSum (l : LineD) (a b : Nat) : Int := ((l.runs.drop a).take (b - a)).sum
theorem sum_bound : ∀ (xs : List Int), (∀ x ∈ xs, 1 ≤ x ∧ x ≤ 60) → 0 ≤ xs.sum ∧ xs.sum ≤ 60 * xs.length
  | [], _ => by simp
  | x :: xs, h => by
    have h1 := h x (by simp)
    have h2 := sum_bound xs (fun y hy => h y (by simp [hy]))
    simp only [List.sum_cons, List.length_cons]
    omega
theorem sum_take_succ (xs : List Int) (k : Nat) (h : k < xs.length) : (xs.take (k + 1)).sum = (xs.take k).sum + xs[k] := by
  rw [List.take_succ_eq_append_getElem h, List.sum_append, List.sum_cons, List.sum_nil]; omega
theorem good_line {n : NetD} (hg : NetGood n) (i : Nat) (hi : i < n.lines.length) : LineGood n.lines[i] n.stops.length := hg.2.2.2.1 _ (List.getElem_mem hi)

set_option maxHeartbeats 1000000 in
theorem l2Run_any (v : Value) (l : LineD) (i j : Nat) (w : World) (hr : LineV w v l) (hij : i ≤ j) (hj : j ≤ l.runs.length) (hl : l.runs.length ≤ 6) (hb : ∀ r ∈ l.runs, 1 ≤ r ∧ r ≤ 60) :
    Calls Try.prog 123 #[v, .int .i64 i, .int .i64 j] w fun e w' => e = .returned (.int .i64 (runSum l i j)) ∧ Below w.heap.size w w' := by
  obtain ⟨sv, rv, rfl, hs, hrr⟩ := hr
  obtain ⟨a, c, rfl, _⟩ := ints_open hs
  obtain ⟨a', c', rfl, hc', hm', HC⟩ := ints_open hrr
  have HBd := Lib.hid hb
  clear hs hrr hb
  go_enter Try.func123, Try.ntmps123
  go_wp2_with fail
  go_loop [7, 8] (fun s q => ∃ k : Nat, k ≤ j - i ∧ q = .int .i64 ((i + k : Nat) : Int) ∧ s = .int .i64 ((l.runs.drop i).take k).sum) (fun _ q => j - (RowKit.intOf q).toNat)
  case atStart => exact ⟨0, Nat.zero_le _, rfl, by simp⟩
  case round =>
    obtain ⟨k, hk, rfl, rfl⟩ := hrel
    have hbd := sum_bound ((l.runs.drop i).take k) (fun x hx => HBd.out x (List.mem_of_mem_drop (List.mem_of_mem_take hx)))
    have hlen : ((l.runs.drop i).take k).length ≤ 6 := by simp; omega
    by_cases hlt : k < j - i
    · obtain ⟨b, off, rfl, hbl, hcx⟩ := HC.out (i + k) (by omega)
      have hx := HBd.out _ (List.getElem_mem (show i + k < l.runs.length by omega))
      have HS : Hid (((l.runs.drop i).take (k + 1)).sum = ((l.runs.drop i).take k).sum + l.runs[i + k]'(by omega)) := by
        show _ = _
        rw [sum_take_succ _ _ (by simp; omega)]; simp
      generalize ((l.runs.drop i).take k).sum = s0 at *
      generalize l.runs[i + k] = x at *
      have hb1 : 0 ≤ s0 ∧ s0 ≤ 360 := by omega
      obtain ⟨hb1, hb2⟩ := hb1
      obtain ⟨hx1, hx2⟩ := hx
      have h3 : ((i + k : Nat) : Int) < (j : Int) := by omega
      clear hbd hlen
      go_wp2_with fail
      go_round
      case rel => exact ⟨k + 1, by omega, by go_num, by rw [HS.out]⟩
      case measure => simp [RowKit.intOf]; omega
    · have he : k = j - i := by omega
      subst he
      have h3 : ¬ ((i + (j - i) : Nat) : Int) < (j : Int) := by omega
      go_wp2_with fail
      go_ret
      exact ⟨rfl, (Below.refl _ _).alloc (Nat.le_refl _) _⟩

set_option maxHeartbeats 1000000 in
theorem sumOf_any (v : Value) (xs : List Int) (w : World) (hr : RowAt w v (ints xs)) (hl : xs.length ≤ 6) (hb : ∀ r ∈ xs, 1 ≤ r ∧ r ≤ 60) :
    Calls Try.prog 121 #[v] w fun e w' => e = .returned (.int .i64 xs.sum) ∧ w = w' := by
  obtain ⟨a, c, rfl, hc, hm, HC⟩ := ints_open hr
  have HBd := Lib.hid hb
  clear hr hb
  go_enter Try.func121, Try.ntmps121
  go_wp2_with fail
  go_loop [3, 8] (fun s q => ∃ k : Nat, k ≤ xs.length ∧ q = .int .i64 k ∧ s = .int .i64 (xs.take k).sum) (fun _ q => xs.length - (RowKit.intOf q).toNat)
  case atStart => exact ⟨0, Nat.zero_le _, rfl, by simp⟩
  case round =>
    obtain ⟨k, hk, rfl, rfl⟩ := hrel
    have hbd := sum_bound (xs.take k) (fun x hx => HBd.out x (List.mem_of_mem_take hx))
    have hlen : (xs.take k).length ≤ 6 := by simp; omega
    by_cases hlt : k < xs.length
    · obtain ⟨b, off, rfl, hbl, hcx⟩ := HC.out k hlt
      have hx := HBd.out _ (List.getElem_mem hlt)
      have HS := Lib.hid (sum_take_succ xs k hlt)
      generalize (xs.take k).sum = s0 at *
      generalize xs[k] = x at *
      have hb1 : 0 ≤ s0 ∧ s0 ≤ 360 := by omega
      obtain ⟨hb1, hb2⟩ := hb1
      obtain ⟨hx1, hx2⟩ := hx
      clear hbd hlen
      go_wp2_with fail
      go_round
      case rel => exact ⟨k + 1, by omega, by go_num, by rw [HS.out]⟩
      case measure => simp [RowKit.intOf]; omega
    · have HS : Hid ((xs.take k).sum = xs.sum) := by show _ = _; rw [List.take_of_length_le (by omega)]
      go_wp2_with fail
      go_ret
      exact ⟨ret_int HS.out, rfl⟩
end Go.Proofs.Ytehpeifaknbcnaa

namespace Go.Proofs.Ytehpeifaknbcnaa
open Go.RowKit
set_option linter.unusedVariables false

theorem l4Time_any (t : Int) (w : World) : Calls Try.prog 107 #[.int .i64 t] w fun e w' => e = .returned (.bool (timeB t)) ∧ w = w' := by
  by_cases h : TimeOk t
  · have H := Lib.hid (l1In_yes t 0 1799 w h)
    rw [timeB_yes h]
    go_enter Try.func107, Try.ntmps107
    go_wp2_with (go_at_call 92; refine H.out.mono ?_; rintro e w' ⟨rfl, rfl⟩)
    go_ret
    exact ⟨rfl, rfl⟩
  · have H := Lib.hid (l1In_no t 0 1799 w h)
    rw [timeB_no h]
    go_enter Try.func107, Try.ntmps107
    go_wp2_with (go_at_call 92; refine H.out.mono ?_; rintro e w' ⟨rfl, rfl⟩)
    go_ret
    exact ⟨rfl, rfl⟩
theorem implValidTime_any (t : Int) (w : World) : Calls Try.prog 125 #[.int .i64 t] w fun e w' => e = .returned (.bool (timeB t)) ∧ w = w' := by
  by_cases h0 : 0 ≤ t
  · by_cases h1 : t ≤ 1799
    · rw [timeB_yes ⟨h0, h1⟩]
      go_enter Try.func125, Try.ntmps125
      go_wp2
      go_ret
      exact ⟨rfl, rfl⟩
    · rw [timeB_no fun h => h1 h.2]
      go_enter Try.func125, Try.ntmps125
      go_wp2
      go_ret
      exact ⟨rfl, rfl⟩
  · rw [timeB_no fun h => h0 h.1]
    go_enter Try.func125, Try.ntmps125
    go_wp2
    go_ret
    exact ⟨rfl, rfl⟩
end Go.Proofs.Ytehpeifaknbcnaa

namespace Go.Proofs.Ytehpeifaknbcnaa
open Go.RowKit
set_option linter.unusedVariables false

theorem net_line {w : World} {a : Option Addr} {c : Nat} {a' : Option Addr} {c' : Nat} {n : NetD} (h : NetAt w (.agg #[.slice a n.stops.length c, .slice a' n.lines.length c']) n) (k : Nat) (hk : k < n.lines.length) :
    ∃ b off s0 s1 r0 r1, a' = some ⟨b, off, none⟩ ∧ b < w.heap.size ∧ w.cell? ⟨b, off + k * 3, none⟩ = some (.string n.lines[k].name) ∧ w.cell? ⟨b, off + k * 3 + 1, none⟩ = some (.slice s0 n.lines[k].stops.length s1) ∧ w.cell? ⟨b, off + k * 3 + 2, none⟩ = some (.slice r0 n.lines[k].runs.length r1) ∧
      RowAt w (.slice s0 n.lines[k].stops.length s1) (ints n.lines[k].stops) ∧ RowAt w (.slice r0 n.lines[k].runs.length r1) (ints n.lines[k].runs) := by
  obtain ⟨s, l, he, h1, h2⟩ := h
  simp at he
  obtain ⟨rfl, rfl⟩ := he
  obtain ⟨a2, c2, he, _, _, HC⟩ := lines_open h2
  simp at he
  obtain ⟨rfl, rfl⟩ := he
  obtain ⟨b, off, ha, hlt, hla⟩ := HC.out k hk
  obtain ⟨sv, rv, c0, c1, c2', r1, r2⟩ := hla
  obtain ⟨s0, s1, rfl⟩ := IntS_open r1
  obtain ⟨q0, q1, rfl⟩ := IntS_open r2
  exact ⟨b, off, s0, s1, q0, q1, ha, hlt, c0, c1, c2', r1, r2⟩
end Go.Proofs.Ytehpeifaknbcnaa
