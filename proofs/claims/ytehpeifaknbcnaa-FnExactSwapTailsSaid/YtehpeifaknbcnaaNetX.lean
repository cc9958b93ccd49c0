import Derived.Test.YtehpeifaknbcnaaNetS
namespace Go.Proofs.Ytehpeifaknbcnaa
open Go.RowKit
set_option linter.unusedVariables false

theorem szNetwork_x (v : Value) (n : NetD) (left : Int) (w : World) (hr : NetAt w v n) (hf : NetFits n) (h0 : 0 ≤ left) (h1 : left ≤ 1048576) :
    Calls Try.prog 11 #[v, .int .i64 left] w fun e w' => (∃ r : Int, e = .returned (.int .i64 r) ∧ (r = -1 ∨ (0 ≤ r ∧ r ≤ left ∧ NetSmall n))) ∧ Below w.heap.size w w' := by
  obtain ⟨sv, lv, rfl, hs, hrr⟩ := hr
  have HS := Lib.hid (fun W (hW : Below w.heap.size w W) => szStringS_any sv n.stops left W (hs.below rfl hW) hf.1 (by omega) (by omega))
  have HR := Lib.hid (fun W (hW : Below w.heap.size w W) r (g0 : 0 ≤ r) (g1 : r ≤ 1048576) => szLineS_any lv n.lines r W (hrr.below rfl hW) hf.2 g0 g1)
  obtain ⟨a, c, rfl, hc, hm, _⟩ := strs_open hs
  obtain ⟨a', c', rfl, hc', hm', _⟩ := lines_open hrr
  clear hs hrr hf
  go_enter Try.func11, Try.ntmps11
  go_wp2_with fail
  go_at_call 46
  refine (HS.out _ ((Below.refl _ _).alloc (Nat.le_refl _) _)).mono ?_
  rintro e w1 ⟨⟨r1, rfl, hr1⟩, rfl⟩
  rcases hr1 with rfl | ⟨hp1, he1⟩
  · go_wp2_with fail
    go_ret
    exact ⟨⟨-1, rfl, .inl rfl⟩, (Below.refl _ _).alloc (Nat.le_refl _) _⟩
  · have hb1 : r1 ≤ 1048576 ∧ n.stops.length ≤ 1048576 := by omega
    have hb3 : (n.stops.length : Int) + r1 ≤ left := by omega
    obtain ⟨hb1, hb2⟩ := hb1
    clear he1
    go_wp2_with fail
    go_at_call 47
    refine (HR.out _ ((Below.refl _ _).alloc (Nat.le_refl _) _) _ hp1 hb1).mono ?_
    rintro e w2 ⟨⟨r2, rfl, hr2⟩, hbw⟩
    have HBW : Hid (Below w.heap.size w w2) := ((Below.refl _ _).alloc (Nat.le_refl _) _).trans (hbw.mono (by simp))
    clear hbw
    rcases hr2 with rfl | ⟨hp2, hsm⟩
    · go_wp2_with fail
      go_ret
      exact ⟨⟨-1, rfl, .inl rfl⟩, HBW.out⟩
    · have HSm := Lib.hid hsm
      clear hsm
      go_wp2_with fail
      go_ret
      exact ⟨⟨r2, rfl, .inr ⟨hp2, by have := HSm.out.1; omega, hb2, by have := HSm.out.1; omega, HSm.out.2, by have := HSm.out.1; omega⟩⟩, HBW.out⟩

theorem Network_open {w : World} {v : Value} {n : NetD} (h : NetAt w v n) : ∃ a c a' c', v = .agg #[.slice a n.stops.length c, .slice a' n.lines.length c'] := by
  obtain ⟨a, c, a', c', hv, _⟩ := net_open h
  exact ⟨a, c, a', c', hv⟩
theorem toNetwork_x (v : Value) (n : NetD) (w : World) (hr : NetAt w v n) (hs : NetSmall n) :
    Calls Try.prog 14 #[v] w fun e w' => ∃ a c a' c', e = .returned (.agg #[.slice a n.stops.length c, .slice a' n.lines.length c']) ∧ NetIn w.heap.size w'.heap.size w' (.agg #[.slice a n.stops.length c, .slice a' n.lines.length c']) n ∧ Below w.heap.size w w' :=
  (toNetwork_any v n w hr hs.1 hs.2.1 (fun l hl => (hs.2.2.1 l hl).2)).mono fun e w' ⟨a, c, a', c', he, ho, hb⟩ => ⟨a, c, a', c', he, .mk ho, hb⟩
theorem eqNetwork_x (v v' : Value) (n : NetD) (w : World) (hr : NetAt w v n) (hr' : NetAt w v' n) (hs : NetSmall n) :
    Calls Try.prog 17 #[v, v'] w fun e w' => e = .returned (.bool true) ∧ Below w.heap.size w w' := eqNetwork_same v v' n w hr hr' hs.1

def netTot (n : NetD) : Int := (n.stops.length : Int) + (rowTot n.lines : Int)
def NetMk (k : Int) (w : World) (v : Value) (n : NetD) : Prop := ∃ s l, v = .agg #[s, l] ∧ StrsMk k w s n.stops ∧ LinesAt w l (markedLs (k.toNat + n.stops.length) n.lines)
theorem NetMk.later {k : Int} {w w' : World} {v : Value} {n : NetD} (h : NetMk k w v n) (hb : Below w.heap.size w w') : NetMk k w' v n := by
  obtain ⟨s, l, hv, h1, h2⟩ := h
  exact ⟨s, l, hv, h1.later hb, h2.below rfl hb⟩

def NetMkIn (k : Int) (l u : Nat) (w : World) (v : Value) (n : NetD) : Prop := ∀ W : World, w.heap.size ≤ W.heap.size → (∀ q, l ≤ q → q < u → q < w.heap.size → W.heap[q]? = w.heap[q]?) → NetMk k W v n
theorem NetMkIn.at {k : Int} {l u : Nat} {w : World} {v : Value} {n : NetD} (h : NetMkIn k l u w v n) : NetMk k w v n := h w (Nat.le_refl _) (fun _ _ _ _ => rfl)
theorem netTot_le {n : NetD} (h : NetSmall n) : 0 ≤ netTot n ∧ netTot n ≤ 1048576 := by
  have h1 := rowTot_le n.lines
  have h2 := h.2.2.2
  unfold netTot; omega

theorem markStringS_nil (k : Int) (w : World) (hk0 : 0 < k) (hk : k ≤ 4194304) : Calls Try.prog 113 #[.slice none 0 0, .int .i64 k] w fun e w' => e = .returned (.int .i64 k) ∧ Below w.heap.size w w' := by
  go_enter Try.func113, Try.ntmps113
  go_wp2
  go_loop [1, 5] (fun q i => i = .int .i64 0 ∧ q = .int .i64 k) (fun _ i => 0)
  case atStart => exact ⟨rfl, rfl⟩
  case round =>
    obtain ⟨rfl, rfl⟩ := hrel
    go_wp2
    go_ret
    exact ⟨rfl, Below.refl _ _⟩
theorem markLineS_nil (k : Int) (w : World) (hk0 : 0 < k) (hk : k ≤ 4194304) : Calls Try.prog 114 #[.slice none 0 0, .int .i64 k] w fun e w' => e = .returned (.int .i64 k) ∧ Below w.heap.size w w' := by
  go_enter Try.func114, Try.ntmps114
  go_wp2
  go_loop [1, 5] (fun q i => i = .int .i64 0 ∧ q = .int .i64 k) (fun _ i => 0)
  case atStart => exact ⟨rfl, rfl⟩
  case round =>
    obtain ⟨rfl, rfl⟩ := hrel
    go_wp2
    go_ret
    exact ⟨rfl, Below.refl _ _⟩

set_option maxRecDepth 100000 in
set_option maxHeartbeats 1000000 in
theorem markNetwork_in (v : Value) (n : NetD) (k : Int) (l u : Nat) (w : World) (hr : NetIn l u w v n) (hl : l ≤ w.heap.size) (hu : u ≤ w.heap.size) (hs : NetSmall n) (hk0 : 0 < k) (hk : k ≤ 1048576) :
    Calls Try.prog 80 #[v, .int .i64 k] w fun e w' => e = .returned (.int .i64 (k + netTot n)) ∧ NetMkIn k l u w' v n ∧ Out l u w w' := by
  rcases hr with hr | ⟨rfl, rfl⟩
  · obtain ⟨K, rfl⟩ := Int.eq_ofNat_of_zero_le (Int.le_of_lt hk0)
    obtain ⟨sv, lv, rfl, hss, hlt, hll, hla, hcl⟩ := hr
    obtain ⟨a, c, rfl⟩ := own_shape hss
    obtain ⟨g, c', he⟩ : ∃ g c', lv = .slice (some ⟨g, 0, none⟩) n.lines.length c' := by obtain ⟨g, c', cur, hv, _⟩ := hll; exact ⟨_, _, hv⟩
    subst he
    have hgw : g < w.heap.size := by obtain ⟨g', c', cur, hv, _, _, hblk, _⟩ := hll; simp at hv; obtain ⟨rfl, _⟩ := hv; exact (Array.getElem?_eq_some_iff.1 hblk).1
    have hsz := hs.2.2.2
    have HB := Lib.hid (And.intro hs.1 (show n.lines.length + lineTot n.lines ≤ 1048576 by omega))
    have HS := Lib.hid hss
    have HL := Lib.hid hll
    have HLt := Lib.hid hlt
    have HCl := Lib.hid hcl
    have HW : Hid (l ≤ w.heap.size) := hl
    have HU : Hid (u ≤ w.heap.size) := hu
    have hab := (Below.refl w.heap.size w).alloc (Nat.le_refl _) (.cells #[.slice a n.stops.length c, .slice (some ⟨g, 0, none⟩) n.lines.length c'] 34 (0, 0))
    have HAb := Lib.hid hab
    clear hss hll hs hsz hlt hl hu hla hcl hab
    go_enter Try.func80, Try.ntmps80
    go_wp2_with fail
    go_at_call 113
    refine (markStringS_own _ n.stops K l _ (HS.out.alloc _) HB.out.1 (by omega) (by omega)).mono ?_
    rintro e w1 ⟨rfl, hx1, hg1⟩
    have HO1' : Hid (w1.ownsRow l 9 1 (.slice a n.stops.length c) n.stops.length (strs (marksL K n.stops.length))) := hx1
    have hcl1 : ∀ b, (Value.slice a n.stops.length c).ownBlock = some b → LinesClear (w.alloc (.cells #[.slice a n.stops.length c, .slice (some ⟨g, 0, none⟩) n.lines.length c'] 34 (0, 0))) (.slice (some ⟨g, 0, none⟩) n.lines.length c') b := fun b hb g' n' c'' hc => by
      have h1 := HCl.out b hb g' n' c'' hc
      simp at hc
      obtain ⟨rfl, rfl, rfl⟩ := hc
      exact ⟨h1.1, fun j i v' hj hi hcell => h1.2 j i v' hj hi (by rw [← HAb.out.cell (p := ⟨g, j * 3 + i, none⟩) hgw]; exact hcell)⟩
    have HL1 := Lib.hid ((HL.out.later HAb.out).grownC hg1 hcl1)
    have HX : Hid (∀ x, (Value.slice a n.stops.length c).ownBlock = some x → x ≠ g ∧ ∀ j i v', j < n.lines.length → (i = 1 ∨ i = 2) → w1.cell? ⟨g, j * 3 + i, none⟩ = some v' → v'.ownBlock ≠ some x) := fun x hx => by
      have h1 := hcl1 x hx g _ _ rfl
      refine ⟨h1.1, fun j i v' hj hi hcell => h1.2 j i v' hj hi ?_⟩
      rw [← World.cell?_of_block (a := ⟨g, j * 3 + i, none⟩) (hg1.block g (by simp; omega) (fun e => h1.1 (Option.some.inj (hx.symm.trans e.symm))))]
      exact hcell
    have HO1 : Hid (Out l u w w1) := (Out.of_below HAb.out HW.out).trans
      (Out.of_grown hg1 (by have := HW.out; simp; omega) (fun b hb => ⟨(HS.out.lt b hb).1, HLt.out b hb⟩))
    have p1 : w1.cell? ⟨w.heap.size, 1, none⟩ = some (.slice (some ⟨g, 0, none⟩) n.lines.length c') := gcell hg1 (by go_simp) (fun e => by have := (HS.out.lt _ e).2; omega)
    have hst := HB.out.1
    clear hg1 hx1 hcl1
    go_wp2_with fail
    go_at_call 114
    refine (markLineS_mk _ n.lines (K + n.stops.length) l u _ HL1.out HB.out.2 (by omega) (by omega)).mono ?_
    rintro e w2 ⟨rfl, hm2, ho2, hkp⟩
    have HO2 : Hid (Out l u w w2) := HO1.out.trans ho2
    have hkp' := hkp g _ _ rfl
    have HS2 : Hid (w2.ownsRow l 9 1 (.slice a n.stops.length c) n.stops.length (strs (marksL K n.stops.length))) := own_block HO1'.out (fun x hx => hkp'.2 x (HX.out x hx).1 (HX.out x hx).2 (HO1'.out.lt x hx).2)
    have HM2 := Lib.hid hm2
    clear ho2 hm2 hkp hkp'
    go_wp2_with fail
    go_ret
    refine ⟨ret_int (by unfold netTot; omega), fun W hz hq => ⟨_, _, rfl, ?_, by rw [Int.toNat_natCast]; exact HM2.out W hz hq⟩, HO2.out⟩
    show RowAt _ _ _
    rw [Int.toNat_natCast]
    exact row_keep (rowAt_own HS2.out) hz (fun b hb hlt => hq b (HS2.out.lt b hb).1 (HLt.out b hb) hlt)
  · clear hs hu
    have HL := Lib.hid hl
    clear hl
    go_enter Try.func80, Try.ntmps80
    go_wp2_with fail
    go_at_call 113
    refine (markStringS_nil k _ hk0 (by omega)).mono ?_
    rintro e w1 ⟨rfl, hb1⟩
    have HB1 : Hid (Below w.heap.size w w1) := ((Below.refl _ _).alloc (Nat.le_refl _) _).trans (hb1.mono (by simp))
    have p1 : w1.cell? ⟨w.heap.size, 1, none⟩ = some (.slice none 0 0) := bkeep hb1 (by go_simp)
    clear hb1
    go_wp2_with fail
    go_at_call 114
    refine (markLineS_nil k _ hk0 (by omega)).mono ?_
    rintro e w2 ⟨rfl, hb2⟩
    have HB2 : Hid (Below w.heap.size w w2) := HB1.out.trans (hb2.mono HB1.out.size)
    clear hb2
    go_wp2_with fail
    go_ret
    refine ⟨ret_int (by simp [netTot, rowTot]), fun W hz hq => ⟨_, _, rfl, ?_, ?_⟩, Out.of_below HB2.out HL.out⟩
    · exact ⟨none, 0, rfl, Nat.le_refl _, by decide, fun k u hu => by simp [strs, marksL] at hu⟩
    · exact ⟨none, 0, rfl, Nat.le_refl _, by decide, fun k u hu => by simp [markedLs] at hu⟩

theorem keepH3 {W w w' : World} {p0 p1 p2 : Addr} {x0 x1 x2 : Value} (hb : Below w.heap.size w w') (h : w.cell? p0 = some x0 ∧ w.cell? p1 = some x1 ∧ w.cell? p2 = some x2 ∧ Below W.heap.size W w) : w'.cell? p0 = some x0 ∧ w'.cell? p1 = some x1 ∧ w'.cell? p2 = some x2 ∧ Below W.heap.size W w' := by
  obtain ⟨h0, h1, h2, hl⟩ := h
  exact ⟨bkeep hb h0, bkeep hb h1, bkeep hb h2, hl.trans (hb.mono hl.size)⟩
end Go.Proofs.Ytehpeifaknbcnaa
