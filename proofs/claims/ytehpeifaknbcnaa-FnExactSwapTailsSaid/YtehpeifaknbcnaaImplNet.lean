import Derived.Test.YtehpeifaknbcnaaImplLine
namespace Go.Proofs.Ytehpeifaknbcnaa
open Go.RowKit Go.Maps
set_option linter.unusedVariables false

def NamesNew (n : NetD) (k : Nat) : Prop := ∀ j (h : j < n.stops.length), j < k → NameOk n.stops[j] ∧ n.stops[j] ∉ n.stops.take j
def LinesNew (n : NetD) (k : Nat) : Prop := ∀ j (h : j < n.lines.length), j < k → LineGood n.lines[j] n.stops.length ∧ n.lines[j].name ∉ (n.lines.map (·.name)).take j
theorem namesNew_succ {n : NetD} {k : Nat} (hk : k < n.stops.length) (h : NamesNew n k) (h1 : NameOk n.stops[k]) (h2 : n.stops[k] ∉ n.stops.take k) : NamesNew n (k + 1) := by
  intro j hj hjk
  by_cases e : j = k
  · subst e; exact ⟨h1, h2⟩
  · exact h j hj (by omega)
theorem linesNew_succ {n : NetD} {k : Nat} (hk : k < n.lines.length) (h : LinesNew n k) (h1 : LineGood n.lines[k] n.stops.length) (h2 : n.lines[k].name ∉ (n.lines.map (·.name)).take k) : LinesNew n (k + 1) := by
  intro j hj hjk
  by_cases e : j = k
  · subst e; exact ⟨h1, h2⟩
  · exact h j hj (by omega)
theorem netGood_new {n : NetD} (h : 2 ≤ n.stops.length ∧ n.stops.length ≤ 8 ∧ 1 ≤ n.lines.length ∧ n.lines.length ≤ 5) : NetGood n ↔ NamesNew n n.stops.length ∧ LinesNew n n.lines.length := by
  constructor
  · rintro ⟨_, h1, h2, h3, h4⟩
    refine ⟨fun j hj _ => ⟨h1 _ (List.getElem_mem hj), (nodup_take _).1 h2 j hj⟩, fun j hj _ => ⟨h3 _ (List.getElem_mem hj), ?_⟩⟩
    have := (nodup_take _).1 h4 j (by simpa using hj)
    simpa using this
  · rintro ⟨h1, h2⟩
    refine ⟨h, fun s hs => ?_, (nodup_take _).2 fun j hj => (h1 j hj hj).2, fun l hl => ?_, (nodup_take _).2 fun j hj => ?_⟩
    · obtain ⟨j, hj, rfl⟩ := List.getElem_of_mem hs; exact (h1 j hj hj).1
    · obtain ⟨j, hj, rfl⟩ := List.getElem_of_mem hl; exact (h2 j hj hj).1
    · have hj' : j < n.lines.length := by simpa using hj
      have := (h2 j hj' hj').2
      simpa using this
theorem names_snoc (ls : List LineD) (k : Nat) (h : k < ls.length) : (ls.map (·.name)).take k ++ [ls[k].name] = (ls.map (·.name)).take (k + 1) := by
  rw [← take_snoc_get (ls.map (·.name)) k (by simpa using h)]; simp

theorem NameSet.later {b : Nat} {S : List ByteArray} {w w' : World} (h : NameSet b S w) (hb : Below w.heap.size w w') : NameSet b S w' := SetOf.block h (hb.block b (SetOf.lt h))
theorem NameSet.grown {b : Nat} {S : List ByteArray} {w : World} (h : NameSet b S w) (o : Obj) : NameSet b S (w.alloc o) := SetOf.kept h (World.grownBy_alloc w o none) (by simp)

theorem LineAt.toW {w : World} {b o : Nat} {l : LineD} (h : LineAt w b o l) : ∃ a1 c1 a2 c2, w.cell? ⟨b, o, none⟩ = some (.string l.name) ∧ w.cell? ⟨b, o + 1, none⟩ = some (.slice a1 l.stops.length c1) ∧ w.cell? ⟨b, o + 2, none⟩ = some (.slice a2 l.runs.length c2) ∧
    LineV w (.agg #[.string l.name, .slice a1 l.stops.length c1, .slice a2 l.runs.length c2]) l := by
  obtain ⟨sv, rv, h0, h1, h2, h3, h4⟩ := h
  obtain ⟨a1, c1, rfl, _⟩ := ints_open h3
  obtain ⟨a2, c2, rfl, _⟩ := ints_open h4
  exact ⟨a1, c1, a2, c2, h0, h1, h2, _, _, rfl, h3, h4⟩

set_option maxRecDepth 100000 in
set_option maxHeartbeats 2000000 in
theorem implValid_any (v : Value) (n : NetD) (w : World) (hr : NetAt w v n) (hf : NetFits n) :
    Calls Try.prog 51 #[v] w fun e w' => e = .returned (.bool (netB n)) ∧ Below w.heap.size w w' := by
  obtain ⟨sv, lv, rfl, hss, hls⟩ := hr
  obtain ⟨a, c, rfl, hc, hm, HC⟩ := strs_open hss
  obtain ⟨a', c', rfl, hc', hm', HC'⟩ := lines_open hls
  clear hss hls
  have HFit := Lib.hid hf
  clear hf
  have hmm := @run_makeMap Try.prog
  by_cases hlen : 2 ≤ n.stops.length ∧ n.stops.length ≤ 8
  · by_cases hlen' : 1 ≤ n.lines.length ∧ n.lines.length ≤ 5
    · have HLO := Lib.hid (netGood_new (n := n) ⟨by omega, by omega, by omega, by omega⟩)
      obtain ⟨g1, g2⟩ := hlen
      obtain ⟨g1', g2'⟩ := hlen'
      go_enter Try.func51, Try.ntmps51
      go_wp2_with fail
      go_loopw [33] (fun i wr => ∃ k : Nat, k ≤ n.stops.length ∧ i = .int .i64 k ∧ Hid (NamesNew n k) ∧
          wr.cell? ⟨w.heap.size, 0, none⟩ = some (.slice a n.stops.length c) ∧ wr.cell? ⟨w.heap.size, 1, none⟩ = some (.slice a' n.lines.length c') ∧ NameSet (w.heap.size + 1) (n.stops.take k) wr ∧ Below w.heap.size w wr ∧ w.heap.size + 1 < wr.heap.size)
        (fun i _ => n.stops.length - (RowKit.intOf i).toNat)
      case atStart =>
        refine ⟨0, Nat.zero_le _, rfl, fun j hj h => by omega, by simp, by simp, ?_, ((Below.refl _ _).alloc (Nat.le_refl _) _).alloc (by simp) _, by simp⟩
        have := SetOf.made (w.alloc (.cells #[.slice a n.stops.length c, .slice a' n.lines.length c'] 34 (0, 0))) Try.prog 9 4 sLit
        simpa [NameSet] using this
      case round =>
        obtain ⟨k, hk, rfl, HT, hb0, hb1, hset, hbel, hsz⟩ := hrel
        by_cases hlt : k < n.stops.length
        · obtain ⟨b, off, rfl, hbl, hcx0⟩ := HC.out k hlt
          have hcx : wr.cell? ⟨b, off + k, none⟩ = some (.string n.stops[k]) := by rw [hbel.cell (p := ⟨b, off + k, none⟩) hbl]; exact hcx0
          have hwf := HFit.out.1 _ (List.getElem_mem hlt)
          have HTk := Lib.hid (take_snoc_get n.stops k hlt)
          have HBel := Lib.hid hbel
          clear hcx0
          by_cases hok : NameOk n.stops[k] ∧ n.stops[k] ∉ n.stops.take k
          · have HT2 := Lib.hid (namesNew_succ hlt HT.out hok.1 hok.2)
            have HTake := Lib.hid (takeName_yes (w.heap.size + 1) (n.stops.take k) n.stops[k] wr hwf hset hok.1 hok.2 (by rw [List.length_take]; unfold maxLen; omega))
            clear hok hset hwf
            generalize n.stops[k] = x at *
            go_wp2_with fail
            go_at_call 94
            refine HTake.out.mono ?_
            rintro e w1 ⟨rfl, hset1, hg1⟩
            rw [HTk.out] at hset1
            have hb0' := grown_cell hg1 hb0 (by simp)
            have hb1' := grown_cell hg1 hb1 (by simp)
            have hsz1 : w.heap.size + 1 < w1.heap.size := Nat.lt_of_lt_of_le hsz hg1.size
            have HB1 : Hid (Below w.heap.size w w1) := hbel.grown hg1 (by omega) (fun k hk => by cases hk; omega)
            have HS1 := Lib.hid hset1
            clear hset1 hg1
            go_wp2_with fail
            go_roundw
            case rel => exact ⟨k + 1, by omega, by go_num, HT2, hb0', hb1', HS1.out, HB1.out, hsz1⟩
            case measure => simp [RowKit.intOf]; omega
          · have HNO : Hid (¬ NetGood n) := fun h => hok ((HLO.out.1 h).1 k hlt hlt)
            have HTake := Lib.hid (takeName_no (w.heap.size + 1) (n.stops.take k) n.stops[k] wr hwf hset (by
              by_cases h1 : NameOk n.stops[k]
              · by_cases h2 : n.stops[k] ∈ n.stops.take k
                · exact .inr h2
                · exact absurd ⟨h1, h2⟩ hok
              · exact .inl h1))
            clear hok hset hwf HTk
            generalize n.stops[k] = x at *
            go_wp2_with (go_at_call 94; refine HTake.out.mono ?_; rintro e w1 ⟨rfl, rfl⟩)
            go_ret
            exact ⟨by rw [netB_no HNO.out]; rfl, HBel.out⟩
        · have HT2 : Hid (NamesNew n n.stops.length) := by have := HT.out; rw [show k = n.stops.length by omega] at this; exact this
          clear HT hset
          obtain ⟨wo, rfl⟩ : ∃ wo : World, wo = wr := ⟨_, rfl⟩
          have hb1a := acell hb1 (.map #[] 0)
          go_wp2_with fail
          go_loopw [46] (fun i w2 => ∃ k : Nat, k ≤ n.lines.length ∧ i = .int .i64 k ∧ Hid (LinesNew n k) ∧
              w2.cell? ⟨w.heap.size, 0, none⟩ = some (.slice a n.stops.length c) ∧ NameSet wo.heap.size ((n.lines.map (·.name)).take k) w2 ∧ Below w.heap.size w w2 ∧ wo.heap.size < w2.heap.size)
            (fun i _ => n.lines.length - (RowKit.intOf i).toNat)
          case atStart =>
            refine ⟨0, Nat.zero_le _, rfl, fun j hj h => by omega, acell hb0 _, ?_, hbel.alloc (by omega) _, by simp⟩
            have := SetOf.made wo Try.prog 9 4 sLit
            simpa [NameSet] using this
          case round =>
            clear hb0 hb1 hb1a
            obtain ⟨k, hk, rfl, HT, hb0, hset, hbel2, hsz2⟩ := hrel
            by_cases hlt : k < n.lines.length
            · obtain ⟨b, off, rfl, hbl, hla0⟩ := HC'.out k hlt
              obtain ⟨a1, c1, a2, c2, y0, y1, y2, hlv⟩ := hla0.toW
              have hx0 := hbel2.cell (p := ⟨b, off + k * 3, none⟩) hbl
              rw [y0] at hx0
              have hx1 := hbel2.cell (p := ⟨b, off + k * 3 + 1, none⟩) hbl
              rw [y1] at hx1
              have hx2 := hbel2.cell (p := ⟨b, off + k * 3 + 2, none⟩) hbl
              rw [y2] at hx2
              have hfit := HFit.out.2 _ (List.getElem_mem hlt)
              have HVal := Lib.hid (fun W (hW : Below w.heap.size w W) => isValidLine_any _ n.lines[k] n.stops.length W (hlv.below rfl hW) (by omega) hfit)
              have HFt := Lib.hid hfit
              have HTk := Lib.hid (names_snoc n.lines k hlt)
              have HBel := Lib.hid hbel2
              have HSet := Lib.hid hset
              have hlo := SetOf.lt hset
              have HB0 := Lib.hid hb0
              have hlen5 : k < maxLen := by unfold maxLen; omega
              clear hla0 hlv y0 y1 y2 hset hfit hb0
              by_cases hok : NameOk n.lines[k].name ∧ n.lines[k].name ∉ (n.lines.map (·.name)).take k
              · have HOk := Lib.hid hok
                clear hok
                go_wp2_with fail
                go_at_call 94
                refine (takeName_yes wo.heap.size _ n.lines[k].name _ HFt.out.1 (HSet.out.grown _) HOk.out.1 HOk.out.2 (by rw [List.length_take, List.length_map]; unfold maxLen at *; omega)).mono ?_
                rintro e w1 ⟨rfl, hset1, hg1⟩
                have q0 : w1.cell? ⟨wr.heap.size, 0, none⟩ = some (.string n.lines[k].name) := grown_cell hg1 (by simp) (by simp; omega)
                have q1 : w1.cell? ⟨wr.heap.size, 1, none⟩ = some (.slice a1 n.lines[k].stops.length c1) := grown_cell hg1 (by simp) (by simp; omega)
                have q2 : w1.cell? ⟨wr.heap.size, 2, none⟩ = some (.slice a2 n.lines[k].runs.length c2) := grown_cell hg1 (by simp) (by simp; omega)
                have hb0 : w1.cell? ⟨w.heap.size, 0, none⟩ = some (.slice a n.stops.length c) := grown_cell hg1 (acell HB0.out _) (by simp; omega)
                have HB1 : Hid (Below w.heap.size w w1) := (HBel.out.alloc (by omega) _).grown hg1 (by simp; omega) (fun j hj => by cases hj; omega)
                rw [HTk.out] at hset1
                have HS1 := Lib.hid hset1
                have hsz1 : wo.heap.size < w1.heap.size := by have := hg1.size; simp at this; omega
                clear hset1 hg1 hx0 hx1 hx2 HB0
                by_cases hgd : LineOk n.lines[k] n.stops.length
                · have HT2 := Lib.hid (linesNew_succ hlt HT.out ⟨HOk.out.1, hgd⟩ HOk.out.2)
                  rw [lineOkB_yes hgd] at HVal
                  clear hgd
                  go_wp2_with fail
                  go_at_call 95
                  refine (HVal.out _ HB1.out).mono ?_
                  rintro e w2 ⟨rfl, hb2⟩
                  have HS2 := Lib.hid (HS1.out.later hb2)
                  have hb0' := bkeep hb2 hb0
                  have HB2 : Hid (Below w.heap.size w w2) := HB1.out.trans (hb2.mono HB1.out.size)
                  have hsz2' : wo.heap.size < w2.heap.size := Nat.lt_of_lt_of_le hsz1 hb2.size
                  clear hb2 hb0 q0 q1 q2
                  go_wp2_with fail
                  go_roundw
                  case rel => exact ⟨k + 1, by omega, by go_num, HT2, hb0', HS2.out, HB2.out, hsz2'⟩
                  case measure => simp [RowKit.intOf]; omega
                · have HNO : Hid (¬ NetGood n) := fun h => hgd ((HLO.out.1 h).2 k hlt hlt).1.2
                  rw [lineOkB_no hgd] at HVal
                  clear hgd
                  go_wp2_with fail
                  go_at_call 95
                  refine (HVal.out _ HB1.out).mono ?_
                  rintro e w2 ⟨rfl, hb2⟩
                  have HB2 : Hid (Below w.heap.size w w2) := HB1.out.trans (hb2.mono HB1.out.size)
                  clear hb2 hb0 q0 q1 q2
                  go_wp2_with fail
                  go_ret
                  exact ⟨by rw [netB_no HNO.out]; rfl, HB2.out⟩
              · have HNO : Hid (¬ NetGood n) := fun h => hok (by have := (HLO.out.1 h).2 k hlt hlt; exact ⟨this.1.1, this.2⟩)
                have HOk : Hid (¬ NameOk n.lines[k].name ∨ n.lines[k].name ∈ (n.lines.map (·.name)).take k) := by
                  by_cases h1 : NameOk n.lines[k].name
                  · by_cases h2 : n.lines[k].name ∈ (n.lines.map (·.name)).take k
                    · exact .inr h2
                    · exact absurd ⟨h1, h2⟩ hok
                  · exact .inl h1
                clear hok
                go_wp2_with fail
                go_at_call 94
                refine (takeName_no wo.heap.size _ n.lines[k].name _ HFt.out.1 (HSet.out.grown _) HOk.out).mono ?_
                rintro e w1 ⟨rfl, rfl⟩
                go_wp2_with fail
                go_ret
                exact ⟨by rw [netB_no HNO.out]; rfl, HBel.out.alloc (by omega) _⟩
            · have HYES : Hid (NetGood n) := HLO.out.2 ⟨HT2.out, by have := HT.out; rw [show k = n.lines.length by omega] at this; exact this⟩
              have HBel := Lib.hid hbel2
              go_wp2_with fail
              go_ret
              exact ⟨by rw [netB_yes HYES.out]; rfl, HBel.out⟩
    · have HNO : Hid (¬ NetGood n) := fun h => hlen' ⟨h.1.2.2.1, h.1.2.2.2⟩
      have hl' : n.lines.length < 1 ∨ (1 ≤ n.lines.length ∧ 5 < n.lines.length) := by omega
      obtain ⟨g1, g2⟩ := hlen
      clear hlen'
      rcases hl' with hi | ⟨hi, hi'⟩
      all_goals
        go_enter Try.func51, Try.ntmps51
        go_wp2_with fail
        go_ret
        exact ⟨by rw [netB_no HNO.out]; rfl, (Below.refl _ _).alloc (Nat.le_refl _) _⟩
  · have HNO : Hid (¬ NetGood n) := fun h => hlen ⟨h.1.1, h.1.2.1⟩
    have hl' : n.stops.length < 2 ∨ (2 ≤ n.stops.length ∧ 8 < n.stops.length) := by omega
    clear hlen
    rcases hl' with hi | ⟨hi, hi'⟩
    all_goals
      go_enter Try.func51, Try.ntmps51
      go_wp2_with fail
      go_ret
      exact ⟨by rw [netB_no HNO.out]; rfl, (Below.refl _ _).alloc (Nat.le_refl _) _⟩
end Go.Proofs.Ytehpeifaknbcnaa
