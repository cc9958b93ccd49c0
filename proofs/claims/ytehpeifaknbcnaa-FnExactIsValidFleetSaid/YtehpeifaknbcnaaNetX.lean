import Derived.Test.YtehpeifaknbcnaaNetS
namespace Go.Proofs.Ytehpeifaknbcnaa
open Go.RowKit
set_option linter.unusedVariables false

theorem szNetwork_x (v : Value) (n : NetD) (left : Int) (w : World) (hr : NetAt w v n) (hf : NetFits n) (h0 : 0 ≤ left) (h1 : left ≤ 1048576) :
    Calls Try.prog 11 #[v, .int .i64 left] w fun e w' => (∃ r : Int, e = .returned (.int .i64 r) ∧ (r = -1 ∨ (0 ≤ r ∧ r ≤ left ∧ NetSmall n))) ∧ Below w.heap.size w w' := by
  obtain ⟨sv, lv, rfl, hs, hrr⟩ := hr
  have HS := Lib.hid (fun W (hW : Below w.heap.size w W) => szStringS_any sv n.stops left W (hs.below rfl hW) hf.1 (by omega) (by omega))
  have HR := Lib.hid (fun W (hW : Below w.heap.size w W) r (g0 : 0 ≤ r) (g1 : r ≤ 1048576) => szLineS_any lv n.lines r W (hrr.below rfl hW) hf.2 g0 g1)
  obtain ⟨a, c, rfl, hc, hm, _⟩ := strs_open hs
  obtain ⟨a', c', rfl, hc', hm', _⟩ := lines_open hrr
  clear hs hrr hf
  go_enter Try.func11, Try.ntmps11
  go_wp2_with fail
  go_at_call 46
  refine (HS.out _ ((Below.refl _ _).alloc (Nat.le_refl _) _)).mono ?_
  rintro e w1 ⟨⟨r1, rfl, hr1⟩, rfl⟩
  rcases hr1 with rfl | ⟨hp1, he1⟩
  · go_wp2_with fail
    go_ret
    exact ⟨⟨-1, rfl, .inl rfl⟩, (Below.refl _ _).alloc (Nat.le_refl _) _⟩
  · have hb1 : r1 ≤ 1048576 ∧ n.stops.length ≤ 1048576 := by omega
    have hb3 : (n.stops.length : Int) + r1 ≤ left := by omega
    obtain ⟨hb1, hb2⟩ := hb1
    clear he1
    go_wp2_with fail
    go_at_call 47
    refine (HR.out _ ((Below.refl _ _).alloc (Nat.le_refl _) _) _ hp1 hb1).mono ?_
    rintro e w2 ⟨⟨r2, rfl, hr2⟩, hbw⟩
    have HBW : Hid (Below w.heap.size w w2) := ((Below.refl _ _).alloc (Nat.le_refl _) _).trans (hbw.mono (by simp))
    clear hbw
    rcases hr2 with rfl | ⟨hp2, hsm⟩
    · go_wp2_with fail
      go_ret
      exact ⟨⟨-1, rfl, .inl rfl⟩, HBW.out⟩
    · have HSm := Lib.hid hsm
      clear hsm
      go_wp2_with fail
      go_ret
      exact ⟨⟨r2, rfl, .inr ⟨hp2, by have := HSm.out.1; omega, hb2, by have := HSm.out.1; omega, HSm.out.2, by have := HSm.out.1; omega⟩⟩, HBW.out⟩

theorem Network_open {w : World} {v : Value} {n : NetD} (h : NetAt w v n) : ∃ a c a' c', v = .agg #[.slice a n.stops.length c, .slice a' n.lines.length c'] := by
  obtain ⟨a, c, a', c', hv, _⟩ := net_open h
  exact ⟨a, c, a', c', hv⟩
theorem toNetwork_x (v : Value) (n : NetD) (w : World) (hr : NetAt w v n) (hs : NetSmall n) :
    Calls Try.prog 14 #[v] w fun e w' => ∃ a c a' c', e = .returned (.agg #[.slice a n.stops.length c, .slice a' n.lines.length c']) ∧ NetIn w.heap.size w'.heap.size w' (.agg #[.slice a n.stops.length c, .slice a' n.lines.length c']) n ∧ Below w.heap.size w w' :=
  (toNetwork_any v n w hr hs.1 hs.2.1 (fun l hl => (hs.2.2.1 l hl).2)).mono fun e w' ⟨a, c, a', c', he, ho, hb⟩ => ⟨a, c, a', c', he, .mk ho, hb⟩
theorem eqNetwork_x (v v' : Value) (n : NetD) (w : World) (hr : NetAt w v n) (hr' : NetAt w v' n) (hs : NetSmall n) :
    Calls Try.prog 17 #[v, v'] w fun e w' => e = .returned (.bool true) ∧ Below w.heap.size w w' := eqNetwork_same v v' n w hr hr' hs.1

end Go.Proofs.Ytehpeifaknbcnaa
