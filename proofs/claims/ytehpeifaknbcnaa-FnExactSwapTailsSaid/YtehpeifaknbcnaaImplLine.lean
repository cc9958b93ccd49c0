import Derived.Test.YtehpeifaknbcnaaImplGood
import Derived.Maps.OwnSet
namespace Go.Proofs.Ytehpeifaknbcnaa
open Go.RowKit Go.Maps
set_option linter.unusedVariables false

def StopsNew (l : LineD) (n : Nat) (k : Nat) : Prop := ∀ j (h : j < l.stops.length), j < k → (0 ≤ l.stops[j] ∧ l.stops[j] < (n : Int)) ∧ l.stops[j] ∉ l.stops.take j
theorem stopsNew_succ {l : LineD} {n k : Nat} (hk : k < l.stops.length) (h : StopsNew l n k) (h1 : 0 ≤ l.stops[k] ∧ l.stops[k] < (n : Int)) (h2 : l.stops[k] ∉ l.stops.take k) : StopsNew l n (k + 1) := by
  intro j hj hjk
  by_cases e : j = k
  · subst e; exact ⟨h1, h2⟩
  · exact h j hj (by omega)
theorem lineOk_new {l : LineD} {n : Nat} (h : 2 ≤ l.stops.length ∧ l.stops.length ≤ 6 ∧ l.runs.length + 1 = l.stops.length) : LineOk l n ↔ StopsNew l n l.stops.length ∧ RunsTo l l.runs.length := by
  constructor
  · rintro ⟨_, h1, h2, h3⟩
    exact ⟨fun j hj _ => ⟨h1 _ (List.getElem_mem hj), (nodup_take _).1 h2 j hj⟩, fun j hj _ => h3 _ (List.getElem_mem hj)⟩
  · rintro ⟨h1, h2⟩
    refine ⟨h, fun s hs => ?_, (nodup_take _).2 fun j hj => (h1 j hj hj).2, fun r hr => ?_⟩
    · obtain ⟨j, hj, rfl⟩ := List.getElem_of_mem hs; exact (h1 j hj hj).1
    · obtain ⟨j, hj, rfl⟩ := List.getElem_of_mem hr; exact h2 j hj hj

theorem grown_cell {w w' : World} {b : Nat} (hg : w.grownBy w' (some b)) {p : Addr} {x : Value} (h : w.cell? p = some x) (hne : p.block ≠ b) : w'.cell? p = some x := by
  have hlt := World.block_lt_of_cell? w _ h
  rw [World.cell?_of_block (w := w) (hg.block p.block hlt (fun e => hne (Option.some.inj e)))]; exact h
theorem take_snoc_get {α : Type} (xs : List α) (k : Nat) (h : k < xs.length) : xs.take k ++ [xs[k]] = xs.take (k + 1) := (List.take_succ_eq_append_getElem h).symm

set_option maxRecDepth 100000 in
set_option maxHeartbeats 1000000 in
theorem isValidLine_any (v : Value) (l : LineD) (n : Nat) (w : World) (hr : LineV w v l) (hn : n ≤ 1048576) (hf : LineFits l) :
    Calls Try.prog 95 #[v, .int .i64 n] w fun e w' => e = .returned (.bool (lineOkB l n)) ∧ Below w.heap.size w w' := by
  obtain ⟨sv, rv, rfl, hs, hrr⟩ := hr
  obtain ⟨a, c, rfl, hc, hm, HC⟩ := ints_open hs
  obtain ⟨a', c', rfl, hc', hm', HC'⟩ := ints_open hrr
  clear hs hrr
  have HFit := Lib.hid hf
  clear hf
  have hmm := @run_makeMap Try.prog
  by_cases hlen : 2 ≤ l.stops.length ∧ l.stops.length ≤ 6
  · by_cases hrun : l.runs.length + 1 = l.stops.length
    · have HLO := Lib.hid (lineOk_new (l := l) (n := n) ⟨by omega, by omega, hrun⟩)
      have hne : ((l.runs.length : Int) != (l.stops.length : Int) - 1) = false := by simp; omega
      obtain ⟨g1, g2⟩ := hlen
      clear hrun
      go_enter Try.func95, Try.ntmps95
      go_wp2_with fail
      go_loopw [34] (fun i wr => ∃ k : Nat, k ≤ l.stops.length ∧ i = .int .i64 k ∧ Hid (StopsNew l n k) ∧
          wr.cell? ⟨w.heap.size, 2, none⟩ = some (.slice a' l.runs.length c') ∧ IntSet (w.heap.size + 1) (l.stops.take k) wr ∧ Below w.heap.size w wr ∧ w.heap.size < wr.heap.size)
        (fun i _ => l.stops.length - (RowKit.intOf i).toNat)
      case atStart =>
        refine ⟨0, Nat.zero_le _, rfl, fun j hj h => by omega, by simp, ?_, ((Below.refl _ _).alloc (Nat.le_refl _) _).alloc (by simp) _, by simp; omega⟩
        have := SetOf.made (w.alloc (.cells #[.string l.name, .slice a l.stops.length c, .slice a' l.runs.length c'] 119 (0, 0))) Try.prog 3 4 iLit
        simpa [IntSet] using this
      case round =>
        obtain ⟨k, hk, rfl, HT, hb2, hset, hbel, hsz⟩ := hrel
        by_cases hlt : k < l.stops.length
        · obtain ⟨b, off, rfl, hbl, hcx0⟩ := HC.out k hlt
          have hcx : wr.cell? ⟨b, off + k, none⟩ = some (.int .i64 l.stops[k]) := by rw [hbel.cell (p := ⟨b, off + k, none⟩) hbl]; exact hcx0
          have hwf := HFit.out.2.1 _ (List.getElem_mem hlt)
          have hlk := hset.look hwf
          have HTk := Lib.hid (take_snoc_get l.stops k hlt)
          clear hcx0
          by_cases hin : 0 ≤ l.stops[k] ∧ l.stops[k] < (n : Int)
          · by_cases hnew : l.stops[k] ∈ l.stops.take k
            · have HNO : Hid (¬ LineOk l n) := fun h => ((HLO.out.1 h).1 k hlt hlt).2 hnew
              rw [memB_yes hnew] at hlk
              have HBel := Lib.hid hbel
              obtain ⟨hi1, hi2⟩ := hin
              clear hnew HTk hwf
              generalize l.stops[k] = x at *
              go_wp2_with fail
              go_ret
              exact ⟨by rw [lineOkB_no HNO.out]; rfl, HBel.out⟩
            · have HT2 := Lib.hid (stopsNew_succ hlt HT.out hin hnew)
              rw [memB_no hnew] at hlk
              obtain ⟨w1, hput, hset1, hg1⟩ := hset.put hwf (by rw [List.length_take]; unfold maxLen; omega)
              rw [HTk.out] at hset1
              have hb2' := grown_cell hg1 hb2 (by simp)
              have hbel1 : Below w.heap.size w w1 := hbel.grown hg1 (by omega) (fun k hk => by cases hk; omega)
              have hsz1 : w.heap.size < w1.heap.size := Nat.lt_of_lt_of_le hsz hg1.size
              have HS1 := Lib.hid hset1
              have HB1 := Lib.hid hbel1
              obtain ⟨hi1, hi2⟩ := hin
              clear hnew HTk hwf hg1 hset1 hset hbel1
              generalize l.stops[k] = x at *
              go_wp2_with fail
              go_roundw
              case rel => exact ⟨k + 1, by omega, by go_num, HT2, hb2', HS1.out, HB1.out, hsz1⟩
              case measure => simp [RowKit.intOf]; omega
          · have HNO : Hid (¬ LineOk l n) := fun h => hin ((HLO.out.1 h).1 k hlt hlt).1
            have HBel := Lib.hid hbel
            have hin' : l.stops[k] < 0 ∨ (0 ≤ l.stops[k] ∧ (n : Int) ≤ l.stops[k]) := by omega
            clear hin HTk hwf hlk
            generalize l.stops[k] = x at *
            rcases hin' with hi | ⟨hi, hi'⟩
            all_goals
              go_wp2_with fail
              go_ret
              exact ⟨by rw [lineOkB_no HNO.out]; rfl, HBel.out⟩
        · have HT2 : Hid (StopsNew l n l.stops.length) := by have := HT.out; rw [show k = l.stops.length by omega] at this; exact this
          have HBel := Lib.hid hbel
          clear HT hset
          go_wp2_with fail
          go_loop [56] (fun i => ∃ k : Nat, k ≤ l.runs.length ∧ i = .int .i64 k ∧ Hid (RunsTo l k)) (fun i => l.runs.length - (RowKit.intOf i).toNat)
          case atStart => exact ⟨0, Nat.zero_le _, rfl, fun j hj h => by omega⟩
          case round =>
            obtain ⟨k, hk, rfl, HR⟩ := hrel
            by_cases hlt : k < l.runs.length
            · obtain ⟨b, off, rfl, hbl, hcx0⟩ := HC'.out k hlt
              have hcx : wr.cell? ⟨b, off + k, none⟩ = some (.int .i64 l.runs[k]) := by rw [hbel.cell (p := ⟨b, off + k, none⟩) hbl]; exact hcx0
              clear hcx0
              by_cases hin : 1 ≤ l.runs[k] ∧ l.runs[k] ≤ 60
              · have HR2 := Lib.hid (runsTo_succ hlt HR.out hin)
                obtain ⟨hi1, hi2⟩ := hin
                generalize l.runs[k] = x at *
                go_wp2_with fail
                go_round
                case rel => exact ⟨k + 1, by omega, by go_num, HR2⟩
                case measure => simp [RowKit.intOf]; omega
              · have HNO : Hid (¬ LineOk l n) := fun h => hin ((HLO.out.1 h).2 k hlt hlt)
                have hin' : l.runs[k] < 1 ∨ (1 ≤ l.runs[k] ∧ 60 < l.runs[k]) := by omega
                clear hin
                generalize l.runs[k] = x at *
                rcases hin' with hi | ⟨hi, hi'⟩
                all_goals
                  go_wp2_with fail
                  go_ret
                  exact ⟨by rw [lineOkB_no HNO.out]; rfl, HBel.out⟩
            · have HYES : Hid (LineOk l n) := HLO.out.2 ⟨HT2.out, by have := HR.out; rw [show k = l.runs.length by omega] at this; exact this⟩
              go_wp2_with fail
              go_ret
              exact ⟨by rw [lineOkB_yes HYES.out]; rfl, HBel.out⟩
    · have HNO : Hid (¬ LineOk l n) := fun h => hrun h.1.2.2
      have hne : ((l.runs.length : Int) != (l.stops.length : Int) - 1) = true := by rw [bne_iff_ne]; omega
      obtain ⟨g1, g2⟩ := hlen
      clear hrun
      go_enter Try.func95, Try.ntmps95
      go_wp2_with fail
      go_ret
      exact ⟨by rw [lineOkB_no HNO.out]; rfl, (Below.refl _ _).alloc (Nat.le_refl _) _⟩
  · have HNO : Hid (¬ LineOk l n) := fun h => hlen ⟨h.1.1, h.1.2.1⟩
    have hl' : l.stops.length < 2 ∨ (2 ≤ l.stops.length ∧ 6 < l.stops.length) := by omega
    clear hlen
    rcases hl' with hi | ⟨hi, hi'⟩
    all_goals
      go_enter Try.func95, Try.ntmps95
      go_wp2_with fail
      go_ret
      exact ⟨by rw [lineOkB_no HNO.out]; rfl, (Below.refl _ _).alloc (Nat.le_refl _) _⟩
end Go.Proofs.Ytehpeifaknbcnaa
