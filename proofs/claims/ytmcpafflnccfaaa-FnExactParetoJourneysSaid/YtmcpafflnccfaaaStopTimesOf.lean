/-
  CONTRACT of impl.stopTimesOf: the stop times of a trip, in new memory.
-/
import Derived.Test.YtmcpafflnccfaaaTk
import Derived.Laws.IdiomStrings
namespace Go.Proofs.Ytmcpafflnccfaaa
open Go.RowKit
set_option linter.unusedVariables false

set_option maxRecDepth 100000 in
set_option maxHeartbeats 2000000 in
theorem stopTimesOf_any (v : Value) (n : NetD) (x : TripD) (w : World) (hr : NetAt w v n) (k : Nat) (hk : x.line = k) (hkl : k < n.lines.length)
    (hl : n.lines[k].runs.length ≤ 6) (hb : ∀ r ∈ n.lines[k].runs, 1 ≤ r ∧ r ≤ 60) (hs0 : 0 ≤ x.start) (hs1 : x.start ≤ 1799) :
    Calls Try.prog 102 #[v, tripV x] w fun e w' => (∃ v', e = .returned v' ∧ w'.ownsRow w.heap.size 3 1 v' (n.lines[k].runs.length + 1) (ints (tk x.start n.lines[k].runs (n.lines[k].runs.length + 1)))) ∧ Below w.heap.size w w' := by
  obtain ⟨a, c, a', c', rfl, -, -⟩ := net_open hr
  obtain ⟨lb, lo, s0, s1, r0, r1, rfl, hlb, x0, x1, x2, hrs, hrr⟩ := net_line hr k hkl
  obtain ⟨_, _, he, hc', hm', HC⟩ := ints_open hrr
  simp at he
  obtain ⟨rfl, rfl⟩ := he
  have hk1 : (k : Int) < (n.lines.length : Int) := by omega
  have HBd := Lib.hid hb
  clear hr hrs hrr hb
  obtain ⟨xi, xl, xs⟩ := x
  simp only at hk hs0 hs1
  subst hk
  unfold tripV
  simp only
  generalize n.lines[k] = l at *
  obtain ⟨i0, hi0, hz0, hz1, hz2⟩ := info_parts infoInt
  have hlb1 : lb < w.heap.size + 1 := by omega
  have hlb2 : lb < w.heap.size + 1 + 1 := by omega
  go_enter Try.func102, Try.ntmps102
  go_wp2_with fail
  go_loopw [5, 19] (fun o q wr => ∃ p : Nat, p ≤ l.runs.length ∧ q = .int .i64 p ∧ Hid (wr.ownsRow (w.heap.size + 1 + 1) 3 1 o (p + 1) (ints (tk xs l.runs (p + 1)))) ∧ Hid (Below w.heap.size w wr ∧ w.heap.size + 2 ≤ wr.heap.size))
    (fun _ q _ => l.runs.length - (RowKit.intOf q).toNat)
  case atStart =>
    refine ⟨0, Nat.zero_le _, rfl, ?_, ⟨(((Below.refl _ _).alloc (Nat.le_refl _) _).alloc (by simp) _).alloc (by simp <;> omega) _, by simp <;> omega⟩⟩
    have h := World.ownsRow_lit (base := w.heap.size + 1 + 1) (e := 3) (size := 1) ((w.alloc (.cells #[.slice a n.stops.length c, .slice (some ⟨lb, lo, none⟩) n.lines.length c'] 35 (0, 0))).alloc (.cells #[.int .i64 xi, .int .i64 (k : Int), .int .i64 xs] 125 (0, 0))) #[.int .i64 xs] 1 (by simp) (by decide) (by simp)
    show World.ownsRow _ _ _ _ _ _ _
    simpa [ints, tk] using h
  case round =>
    obtain ⟨p, hp, rfl, HOwn, HB⟩ := hrel
    obtain ⟨oa, oc, rfl⟩ := own_shape HOwn.out
    by_cases hlt : p < l.runs.length
    · obtain ⟨rb, ro, rfl, hrb, y0⟩ := HC.out p hlt
      have z0 := HB.out.1.cell (p := ⟨rb, ro + p, none⟩) hrb
      rw [y0] at z0
      have hrow := rowAt_own HOwn.out
      obtain ⟨oa', oc', he, _, _, hcell⟩ := hrow
      simp only [ints_len, tk_len, Value.slice.injEq, true_and] at he
      obtain ⟨rfl, rfl⟩ := he
      obtain ⟨g, go, rfl, hg, y1⟩ := hcell p (.int .i64 (xs + (l.runs.take p).sum)) (by simp [ints, tk_get])
      have hbd := sum_bound (l.runs.take p) (fun x hx => HBd.out x (List.mem_of_mem_take hx))
      have hlen : (l.runs.take p).length ≤ 6 := by simp; omega
      have hx := HBd.out _ (List.getElem_mem hlt)
      have HS := Lib.hid (sum_take_succ l.runs p hlt)
      have HSucc := Lib.hid (tk_succ xs l.runs (p + 1))
      generalize (l.runs.take p).sum = s at *
      generalize l.runs[p] = y at *
      have hs2 : 0 ≤ s ∧ s ≤ 360 := by omega
      obtain ⟨hs2, hs3⟩ := hs2
      obtain ⟨hy0, hy1⟩ := hx
      have hw : IntKind.i64.wrap (xs + s + y) = xs + s + y := IntWalk.i64_in _ (by omega)
      have hp1 : (p : Int) < ((p + 1 : Nat) : Int) := by omega
      have hp2 : (p : Int) < (p : Int) + 1 := by omega
      have hp3 : (p : Int) < (l.runs.length : Int) := by omega
      have HZ := HB.out.2
      clear hbd hlen hcell y0
      go_wp2_with (at_builtin; refine wpList_append_own _ rfl _ _ 51 rfl (w.heap.size + 1 + 1) 3 i0 (.int .i64 0) 1 8 Try.underlying51 hi0 hz0 hz1 hz2 rfl (by decide) _ _ _ rfl (HOwn.out.alloc _) ⟨wr.heap.size, 0, none⟩ 1 1 [.int .i64 (xs + s + y)] rfl rfl ?c1 ?c2 ?c3 ?c4 ?c5 ?_)
      case c1 => exact one_new _ _
      case c2 => intro u hu; simp at hu; subst hu; rfl
      case c3 => unfold maxLen; omega
      case c4 => omega
      case c5 => simp; omega
      intro v' w3 hown' hgrow _
      have HB3 : Hid (Below w.heap.size w w3 ∧ w.heap.size + 2 ≤ w3.heap.size) := ⟨(HB.out.1.alloc (by omega) _).grown hgrow (by simp; omega) (fun g hg => by have := (HOwn.out.lt g hg).1; omega), by have := hgrow.size; simp at this; omega⟩
      have HR : Hid (w3.ownsRow (w.heap.size + 1 + 1) 3 1 v' (p + 1 + 1) (ints (tk xs l.runs (p + 1 + 1)))) := by
        show w3.ownsRow _ _ _ _ _ _
        rw [HSucc.out, HS.out, ← Int.add_assoc]; simpa [ints] using hown'
      clear hown' hgrow
      go_wp2_with fail
      go_roundw
      case rel => exact ⟨p + 1, by omega, by go_num, HR, HB3⟩
      case measure => simp [RowKit.intOf]; omega
    · have hlt1 : ¬ (p : Int) < (l.runs.length : Int) := by omega
      obtain rfl : p = l.runs.length := by omega
      go_wp2_with fail
      go_ret
      have hX := HOwn.out
      have hle : w.heap.size ≤ w.heap.size + 1 + 1 := by omega
      exact ⟨⟨.slice oa (l.runs.length + 1) oc, rfl, own_base hX hle⟩, HB.out.1⟩
end Go.Proofs.Ytmcpafflnccfaaa
