import Derived.Test.YtemejcbilhcebaaMk32
namespace Go.Proofs.Ytemejcbilhcebaa
open Go.RowKit
set_option linter.unusedVariables false

theorem lineFn_any (v : Value) (l : LineD) (name : ByteArray) (b0 : Nat) (t : Bool) (w : World) (hr : LineV w v l) (hc : w.cell? ⟨b0, 0, none⟩ = some (.string name)) (ht : (l.name.toList == name.toList) = t) :
    Calls Try.prog 102 #[v, .pointer (some ⟨b0, 0, none⟩)] w fun e w' => e = .returned (.bool t) ∧ Below w.heap.size w w' := by
  obtain ⟨sv, rv, rfl, hs, hrr⟩ := hr
  obtain ⟨a, c, rfl, _⟩ := ints_open hs
  obtain ⟨a', c', rfl, _⟩ := ints_open hrr
  have hlt := World.block_lt_of_cell? w _ hc
  clear hs hrr
  go_enter Try.func102, Try.ntmps102
  go_wp2_with fail
  go_ret
  exact ⟨rfl, (Below.refl _ _).alloc (Nat.le_refl _) _⟩

set_option maxHeartbeats 1000000 in
theorem indexFunc_any (v : Value) (ls : List LineD) (name : ByteArray) (b0 : Nat) (w : World) (hr : LinesAt w v ls) (hc : w.cell? ⟨b0, 0, none⟩ = some (.string name)) :
    Calls Try.prog 101 #[v, .func (.func 102) #[] #[.pointer (some ⟨b0, 0, none⟩)]] w fun e w' => e = .returned (.int .i64 (fstIdx name (ls.map (·.name)))) ∧ Below w.heap.size w w' := by
  obtain ⟨a, c, rfl, hcc, hm, HC⟩ := lines_open hr
  have HCap := Lib.hid hc
  have hlt0 := World.block_lt_of_cell? w _ hc
  clear hr hc
  go_enter Try.func101, Try.ntmps101
  go_wp2_with fail
  go_loopw [8] (fun i wr => ∃ k : Nat, k ≤ ls.length ∧ i = .int .i64 k ∧ Hid (name ∉ (ls.map (·.name)).take k) ∧ Below w.heap.size w wr) (fun i _ => ls.length - (RowKit.intOf i).toNat)
  case atStart => exact ⟨0, Nat.zero_le _, rfl, by show _ ∉ _; simp, Below.refl _ _⟩
  case round =>
    obtain ⟨k, hk, rfl, HN, hbel⟩ := hrel
    by_cases hlt : k < ls.length
    · obtain ⟨b, off, rfl, hbl, hla⟩ := HC.out k hlt
      obtain ⟨sv, rv, y0, y1, y2, hlv⟩ := hla.toV
      have hx0 := hbel.cell (p := ⟨b, off + k * 3, none⟩) hbl
      rw [y0] at hx0
      have hx1 := hbel.cell (p := ⟨b, off + k * 3 + 1, none⟩) hbl
      rw [y1] at hx1
      have hx2 := hbel.cell (p := ⟨b, off + k * 3 + 2, none⟩) hbl
      rw [y2] at hx2
      have hcap : wr.cell? ⟨b0, 0, none⟩ = some (.string name) := by rw [hbel.cell (p := ⟨b0, 0, none⟩) hlt0]; exact HCap.out
      have HFn := Lib.hid (fun t (ht : (ls[k].name.toList == name.toList) = t) => lineFn_any _ ls[k] name b0 t wr (hlv.below rfl hbel) hcap ht)
      have hlt' : k < (ls.map (·.name)).length := by simpa using hlt
      have hget : (ls.map (·.name))[k]'hlt' = ls[k].name := by simp
      have HBel := Lib.hid hbel
      clear hla hlv y0 y1 y2 hcap hbel
      by_cases he : ls[k].name = name
      · have HF := Lib.hid (fstIdx_hit k hlt' (hget.trans he) HN.out)
        have HFt := Lib.hid (HFn.out true (by rw [bytes_eq]; simp [he]))
        clear he hget HFn
        go_wp2_with fail
        go_at_call 102
        refine HFt.out.mono ?_
        rintro e w1 ⟨rfl, hb1⟩
        have HB1 : Hid (Below w.heap.size w w1) := HBel.out.trans (hb1.mono HBel.out.size)
        clear hb1
        go_wp2_with fail
        go_ret
        exact ⟨ret_int HF.out.symm, HB1.out⟩
      · have HN2 := Lib.hid (not_take_succ hlt' HN.out (by rw [hget]; exact he))
        have HFt := Lib.hid (HFn.out false (by rw [bytes_eq]; simp [he]))
        clear he hget HFn
        go_wp2_with fail
        go_at_call 102
        refine HFt.out.mono ?_
        rintro e w1 ⟨rfl, hb1⟩
        have HB1 : Hid (Below w.heap.size w w1) := HBel.out.trans (hb1.mono HBel.out.size)
        clear hb1
        go_wp2_with fail
        go_roundw
        case rel => exact ⟨k + 1, by omega, by go_num, HN2, HB1.out⟩
        case measure => simp [RowKit.intOf]; omega
    · have HF := Lib.hid (fstIdx_none (not_take_all (by simp; omega) HN.out))
      go_wp2_with fail
      go_ret
      exact ⟨ret_int HF.out.symm, hbel⟩

theorem lineIndex_any (v : Value) (ls : List LineD) (name : ByteArray) (w : World) (hr : LinesAt w v ls) :
    Calls Try.prog 59 #[v, .string name] w fun e w' => e = .returned (.int .i64 (fstIdx name (ls.map (·.name)))) ∧ Below w.heap.size w w' := by
  have HI := Lib.hid (fun W (h : Below w.heap.size w W) b0 (hc : W.cell? ⟨b0, 0, none⟩ = some (.string name)) => indexFunc_any v ls name b0 W (hr.below rfl h) hc)
  obtain ⟨a, c, rfl, _⟩ := lines_open hr
  clear hr
  go_enter Try.func59, Try.ntmps59
  go_wp2_with fail
  go_at_call 101
  refine (HI.out _ ((Below.refl _ _).alloc (Nat.le_refl _) _) _ (by go_simp)).mono ?_
  rintro e w1 ⟨rfl, hb1⟩
  have HB1 : Hid (Below w.heap.size w w1) := ((Below.refl _ _).alloc (Nat.le_refl _) _).trans (hb1.mono (by simp))
  clear hb1
  go_wp2_with fail
  go_ret
  exact ⟨rfl, HB1.out⟩

theorem implLineNumber_any (v : Value) (n : NetD) (name : ByteArray) (w : World) (hr : NetAt w v n) (hf : NetFits n) :
    Calls Try.prog 14 #[v, .string name] w fun e w' => FoundR (NetGood n) (fstIdx name (n.lines.map (·.name))) e ∧ Below w.heap.size w w' := by
  have HG := Lib.hid (fun W (h : Below w.heap.size w W) => implValid_any v n W (hr.below rfl h) hf)
  obtain ⟨a, c, a', c', rfl, hss, hll⟩ := net_open hr
  have HF := Lib.hid (fun W (h : Below w.heap.size w W) => lineIndex_any _ n.lines name W (hll.below rfl h))
  clear hss hll hr
  by_cases hg : NetGood n
  · rw [netB_yes hg] at HG
    have HGo := Lib.hid hg
    clear hg
    go_enter Try.func14, Try.ntmps14
    go_wp2_with fail
    go_at_call 11
    refine (HG.out _ ((Below.refl _ _).alloc (Nat.le_refl _) _)).mono ?_
    rintro e w1 ⟨rfl, hb1⟩
    have HB1 : Hid (Below w.heap.size w w1) := ((Below.refl _ _).alloc (Nat.le_refl _) _).trans (hb1.mono (by simp))
    have p1 : w1.cell? ⟨w.heap.size, 1, none⟩ = some (.slice a' n.lines.length c') := bkeep hb1 (by go_simp)
    clear hb1
    go_wp2_with fail
    go_at_call 59
    refine (HF.out _ HB1.out).mono ?_
    rintro e w2 ⟨rfl, hb2⟩
    have HB2 : Hid (Below w.heap.size w w2) := HB1.out.trans (hb2.mono HB1.out.size)
    clear hb2
    by_cases hi : fstIdx name (n.lines.map (·.name)) < 0
    · go_wp2_with (go_at_call 58; refine (foundAt_no _ _ hi).mono ?_; rintro e w2 ⟨rfl, rfl⟩)
      go_ret2
      exact ⟨.inr ⟨fun h => by omega, rfl⟩, HB2.out⟩
    · have hi' : 0 ≤ fstIdx name (n.lines.map (·.name)) := by omega
      clear hi
      go_wp2_with (go_at_call 58; refine (foundAt_yes _ _ hi').mono ?_; rintro e w2 ⟨rfl, rfl⟩)
      go_ret2
      exact ⟨.inl ⟨HGo.out, hi', rfl⟩, HB2.out⟩
  · rw [netB_no hg] at HG
    have HGo := Lib.hid hg
    clear hg
    go_enter Try.func14, Try.ntmps14
    go_wp2_with fail
    go_at_call 11
    refine (HG.out _ ((Below.refl _ _).alloc (Nat.le_refl _) _)).mono ?_
    rintro e w1 ⟨rfl, hb1⟩
    go_wp2_with fail
    go_ret2
    exact ⟨.inr ⟨fun h => HGo.out h.1, rfl⟩, ((Below.refl _ _).alloc (Nat.le_refl _) _).trans (hb1.mono (by simp))⟩

end Go.Proofs.Ytemejcbilhcebaa
