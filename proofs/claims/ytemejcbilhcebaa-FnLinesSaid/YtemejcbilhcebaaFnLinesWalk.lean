import Derived.Test.YtemejcbilhcebaaDrawRev
import Derived.Test.YtemejcbilhcebaaVNet
import Derived.Test.YtemejcbilhcebaaLinesFact
import Derived.Test.YtemejcbilhcebaaReverseLineS
import Derived.Test.YtemejcbilhcebaaMk32
import Derived.Test.YtemejcbilhcebaaMk43
import Derived.Deep.DeepCutAuto
import Derived.Deep.RegionLaw
import Derived.BigQuiet
namespace Go.Proofs.Ytemejcbilhcebaa.fnLines
open Go.RowKit
set_option linter.unusedVariables false
set_option linter.unusedSimpArgs false

theorem run_at {v : Value} {n : NetD} {line fr tt s : Int} {w : World} (hr : NetAt w v n) (hf : NetFits n) (h : runAns n line fr tt = (s, true)) :
    Calls Try.prog 13 #[v, .int .i64 line, .int .i64 fr, .int .i64 tt] w fun e w' => e = .returned (.tuple #[.int .i64 s, .bool true]) ∧ Below w.heap.size w w' :=
  (implRunTime_any v n line fr tt w hr hf).mono fun e w' ⟨he, hb⟩ => ⟨by unfold IsRun at he; rw [h] at he; exact he, hb⟩
theorem no_at {v : Value} {n : NetD} {name : ByteArray} {k : Nat} {w : World} (hr : NetAt w v n) (hf : NetFits n) (hg : NetGood n) (h : fstIdx name (n.lines.map (·.name)) = k) :
    Calls Try.prog 14 #[v, .string name] w fun e w' => e = .returned (.tuple #[.int .i64 k, .bool true]) ∧ Below w.heap.size w w' :=
  (implLineNumber_any v n name w hr hf).mono fun e w' ⟨he, hb⟩ => ⟨by
    rw [h] at he
    rcases he with ⟨-, he⟩ | ⟨hn, -⟩
    · exact he.2
    · exact absurd ⟨hg, by omega⟩ hn, hb⟩
theorem la_at {v : Value} {n : NetD} {stop : Int} {w : World} (hr : NetAt w v n) (hf : NetFits n) (hs : NetSmall n) (h : StopIn n stop) :
    Calls Try.prog 15 #[v, .int .i64 stop] w fun e w' => (∃ z, e = .returned (.tuple #[z, .bool true]) ∧ RowAt w' z (ints (laAns n stop))) ∧ Below w.heap.size w w' :=
  (implLinesAt_any v n stop w hr hf hs).mono fun e w' ⟨⟨z, he, ho⟩, hb⟩ => ⟨⟨z, by rw [he, decide_eq_true h], rowAt_own ho⟩, hb⟩

structure S1 (W w : World) (nb mb : Nat) (nv mv s0 l0 s1 l1 : Value) (d m : NetD) : Prop where
  bel : Below W.heap.size W w
  net : NetAt w nv d
  new : NetAt w mv m
  n0 : w.cell? ⟨nb, 0, none⟩ = some s0
  n1 : w.cell? ⟨nb, 1, none⟩ = some l0
  m0 : w.cell? ⟨mb, 0, none⟩ = some s1
  m1 : w.cell? ⟨mb, 1, none⟩ = some l1
theorem S1.below {W w w' : World} {nb mb : Nat} {nv mv s0 l0 s1 l1 : Value} {d m : NetD} (h : S1 W w nb mb nv mv s0 l0 s1 l1 d m) (hb : Below w.heap.size w w') : S1 W w' nb mb nv mv s0 l0 s1 l1 d m :=
  ⟨h.bel.trans (hb.mono h.bel.size), h.net.below rfl hb, h.new.below rfl hb, bkeep hb h.n0, bkeep hb h.n1, bkeep hb h.m0, bkeep hb h.m1⟩
theorem keepL {w w' : World} {p0 p1 p2 p3 p4 p5 : Addr} {x0 x1 x2 x3 x4 x5 : Value} (hb : Below w.heap.size w w') (h : w.cell? p0 = some x0 ∧ w.cell? p1 = some x1 ∧ w.cell? p2 = some x2 ∧ w.cell? p3 = some x3 ∧ w.cell? p4 = some x4 ∧ w.cell? p5 = some x5) :
    w'.cell? p0 = some x0 ∧ w'.cell? p1 = some x1 ∧ w'.cell? p2 = some x2 ∧ w'.cell? p3 = some x3 ∧ w'.cell? p4 = some x4 ∧ w'.cell? p5 = some x5 := by
  obtain ⟨h0, h1, h2, h3, h4, h5⟩ := h
  exact ⟨bkeep hb h0, bkeep hb h1, bkeep hb h2, bkeep hb h3, bkeep hb h4, bkeep hb h5⟩
theorem keepL7 {w w' : World} {p0 p1 p2 p3 p4 p5 p6 : Addr} {x0 x1 x2 x3 x4 x5 x6 : Value} (hb : Below w.heap.size w w') (h : w.cell? p0 = some x0 ∧ w.cell? p1 = some x1 ∧ w.cell? p2 = some x2 ∧ w.cell? p3 = some x3 ∧ w.cell? p4 = some x4 ∧ w.cell? p5 = some x5 ∧ w.cell? p6 = some x6) :
    w'.cell? p0 = some x0 ∧ w'.cell? p1 = some x1 ∧ w'.cell? p2 = some x2 ∧ w'.cell? p3 = some x3 ∧ w'.cell? p4 = some x4 ∧ w'.cell? p5 = some x5 ∧ w'.cell? p6 = some x6 := by
  obtain ⟨h0, h1, h2, h3, h4, h5, h6⟩ := h
  exact ⟨bkeep hb h0, bkeep hb h1, bkeep hb h2, bkeep hb h3, bkeep hb h4, bkeep hb h5, bkeep hb h6⟩
theorem rv_cases (d : NetD) (k : Int) (nm : ByteArray) : ((rvF d k nm).2 = false ∧ (rvF d k nm).1.stops.length = 0) ∨
    ∃ K : Nat, k = K ∧ ∃ hK : K < d.lines.length, NetGood d ∧ NetGood (rvN d K nm) ∧ (rvF d k nm).1 = rvN d K nm ∧ (rvF d k nm).2 = true := by
  unfold rvF
  by_cases h : NetGood d ∧ (0 ≤ k ∧ k < (d.lines.length : Int)) ∧ NetGood (rvN d k.toNat nm)
  · rw [if_pos h]
    obtain ⟨K, rfl⟩ := Int.eq_ofNat_of_zero_le h.2.1.1
    exact .inr ⟨K, rfl, by have := h.2.1.2; omega, h.1, h.2.2, rfl, rfl⟩
  · rw [if_neg h]; exact .inl ⟨rfl, rfl⟩
theorem rv_fits (d : NetD) (k : Int) (nm : ByteArray) (hf : NetFits d) (hn : nm.size ≤ maxLen) : NetFits (rvF d k nm).1 := by
  unfold rvF
  split
  · exact rvN_fits hf hn
  · exact ⟨fun s hs => by simp at hs, fun l hl => by simp at hl⟩

set_option maxRecDepth 100000 in
set_option maxHeartbeats 8000000 in
theorem walk (v0 : Value) (W : World) (S0 : CodeAt W v0) (hL : laidMetH Try.prog Rows.fnLinesRow.laid W) (hsh : W.ShapedOpen Try.prog) :
    Calls Try.prog 3 #[v0] W fun e w' => e = .returned (.bool true) ∧ Below W.heap.size W w' := by
  clear hL hsh
  have HD := Lib.hid (drawReverse_any v0 W S0)
  obtain ⟨l, a, c, rfl, h1, h2, h3⟩ := S0
  clear h3
  obtain ⟨b1, b2⟩ := vBig_any a _ c W (show (l.map byteV).length ≤ maxLen by unfold maxLen at *; omega)
  generalize (l.map byteV).length = n at *
  by_cases hbig : 65536 < n
  · have HB := Lib.hid (b1 hbig)
    clear b1 b2
    go_enter Try.func3, Try.ntmps3
    go_wp2_with (go_at_call 6; refine HB.out.mono ?_; rintro e w' ⟨rfl, rfl⟩)
    go_ret
    exact ⟨rfl, Below.refl _ _⟩
  have HB := Lib.hid (b2 (by omega))
  clear b1 b2
  go_enter Try.func3, Try.ntmps3
  go_wp2_with fail
  go_at_call 6
  refine HB.out.mono ?_
  rintro e w' ⟨rfl, rfl⟩
  clear HB
  go_wp2_with fail
  go_at_call 7
  refine HD.out.mono ?_
  rintro e w1 ⟨⟨d, sa, sc, oa, oc, kk, nm, rfl, hdr, ⟨k0, k1⟩, hnm⟩, hb⟩
  clear HD hbig h1 h2 l
  obtain ⟨hf, hs⟩ := any_fits hdr.1.1 hdr.1.2.1 hdr.1.2.2
  have hnm' : nm.size ≤ maxLen := by unfold maxLen; omega
  have hIn : ∀ t, Below W.heap.size W (w1.alloc (.cells #[.slice sa d.stops.length sc, .slice oa d.lines.length oc] t)) ∧ NetAt (w1.alloc (.cells #[.slice sa d.stops.length sc, .slice oa d.lines.length oc] t)) (.agg #[.slice sa d.stops.length sc, .slice oa d.lines.length oc]) d ∧ (w1.alloc (.cells #[.slice sa d.stops.length sc, .slice oa d.lines.length oc] t)).cell? ⟨w1.heap.size, 0, none⟩ = some (.slice sa d.stops.length sc) ∧ (w1.alloc (.cells #[.slice sa d.stops.length sc, .slice oa d.lines.length oc] t)).cell? ⟨w1.heap.size, 1, none⟩ = some (.slice oa d.lines.length oc) := fun t =>
    ⟨hb.trans ((Below.refl _ _).alloc hb.size _), hdr.2.at.below rfl ((Below.refl _ _).alloc (Nat.le_refl _) _), by go_simp, by go_simp⟩
  have hIn := hIn 27
  have HF := Lib.hid hf
  have HS := Lib.hid hs
  have HC := Lib.hid (rv_cases d kk nm)
  have hfm := rv_fits d kk nm hf hnm'
  have HFm := Lib.hid hfm
  have HSm := Lib.hid (rvF_small d kk nm)
  have HI := Lib.hid (fun w (h : NetAt w (.agg #[.slice sa d.stops.length sc, .slice oa d.lines.length oc]) d) => implReverseLine_any _ d kk nm w h hf hnm')
  have HSp := Lib.hid (fun w (h : NetAt w (.agg #[.slice sa d.stops.length sc, .slice oa d.lines.length oc]) d) => specReverseLine_any _ d kk nm w h hf hnm' hs.2.1)
  clear hdr hb hf hs hnm' hfm
  generalize rvF d kk nm = mm at *
  obtain ⟨m, ok⟩ := mm
  simp only at HC HFm HSm HI HSp
  go_wp2_with fail
  obtain ⟨w2, hw2⟩ : ∃ w2 : World, w2 = w1.alloc (.cells #[.slice sa d.stops.length sc, .slice oa d.lines.length oc] 27) := ⟨_, rfl⟩
  rw [← hw2] at hIn ⊢
  generalize w1.heap.size = nb at *
  clear hw2
  have HIn := Lib.hid hIn
  obtain ⟨-, -, c0, c1⟩ := hIn
  go_at_call 8
  refine (HI.out w2 HIn.out.2.1).mono ?_
  rintro e w3 ⟨z, rfl, hz, hb⟩
  obtain ⟨ma, mc, na, nc, rfl, -, -⟩ := net_open hz.at
  have hIn2 : ∀ t, S1 W (w3.alloc (.cells #[.slice ma m.stops.length mc, .slice na m.lines.length nc] t)) nb w3.heap.size (.agg #[.slice sa d.stops.length sc, .slice oa d.lines.length oc]) (.agg #[.slice ma m.stops.length mc, .slice na m.lines.length nc]) (.slice sa d.stops.length sc) (.slice oa d.lines.length oc) (.slice ma m.stops.length mc) (.slice na m.lines.length nc) d m := fun t => by
    have hb2 := hb.trans ((Below.refl _ _).alloc hb.size (.cells #[.slice ma m.stops.length mc, .slice na m.lines.length nc] t))
    exact ⟨HIn.out.1.trans (hb2.mono HIn.out.1.size), HIn.out.2.1.below rfl hb2, hz.at.below rfl ((Below.refl _ _).alloc (Nat.le_refl _) _), bkeep hb2 c0, bkeep hb2 c1, by go_simp, by go_simp⟩
  have hIn2 := hIn2 27
  clear hz hb HIn c0 c1 HI
  have hc := hIn2
  obtain ⟨-, -, -, c0, c1, m0, m1⟩ := hc
  go_wp2_with fail
  obtain ⟨w4, hw4⟩ : ∃ w4 : World, w4 = w3.alloc (.cells #[.slice ma m.stops.length mc, .slice na m.lines.length nc] 27) := ⟨_, rfl⟩
  rw [← hw4] at hIn2 c0 c1 m0 m1 ⊢
  generalize w3.heap.size = mb at *
  clear hw4
  have HIn := Lib.hid hIn2
  go_at_call 9
  refine (HSp.out w4 HIn.out.net).mono ?_
  rintro e w5 ⟨z, rfl, hz, hb⟩
  obtain ⟨qa, qc, ra, rc, rfl, -, -⟩ := net_open hz.at
  have HIn := Lib.hid (HIn.out.below hb)
  have HZ := Lib.hid hz.at
  clear hz hb HSp c0 c1 m0 m1
  obtain ⟨-, -, -, c0, c1, m0, m1⟩ := HIn.out
  go_wp2_with fail
  obtain ⟨w6, hw6⟩ : ∃ w6 : World, w6 = w5.alloc (.cells #[.slice qa m.stops.length qc, .slice ra m.lines.length rc] 27) := ⟨_, rfl⟩
  have hb6 : Below w5.heap.size w5 w6 := by rw [hw6]; exact (Below.refl _ _).alloc (Nat.le_refl _) _
  have q0 : w6.cell? ⟨w5.heap.size, 0, none⟩ = some (.slice qa m.stops.length qc) := by rw [hw6]; go_simp
  have q1 : w6.cell? ⟨w5.heap.size, 1, none⟩ = some (.slice ra m.lines.length rc) := by rw [hw6]; go_simp
  rw [← hw6]
  have HIn := Lib.hid (HIn.out.below hb6)
  have HZ := Lib.hid (HZ.out.below rfl hb6)
  clear hb6 hw6 c0 c1 m0 m1
  generalize w5.heap.size = qb at *
  obtain ⟨-, -, -, c0, c1, m0, m1⟩ := HIn.out
  have HVa := Lib.hid (fun w => implValid_any (.agg #[.slice sa d.stops.length sc, .slice oa d.lines.length oc]) d w)
  have HVb := Lib.hid (fun w => specIsValidNetwork_any (.agg #[.slice sa d.stops.length sc, .slice oa d.lines.length oc]) d w)
  generalize netB d = nbb at *
  go_wp2_with fail
  refine wp_region_held_drew (S := (fun w' => w'.cell? ⟨nb, 0, none⟩ = some (.slice sa d.stops.length sc) ∧ w'.cell? ⟨nb, 1, none⟩ = some (.slice oa d.lines.length oc) ∧ w'.cell? ⟨mb, 0, none⟩ = some (.slice ma m.stops.length mc) ∧ w'.cell? ⟨mb, 1, none⟩ = some (.slice na m.lines.length nc) ∧ w'.cell? ⟨qb, 0, none⟩ = some (.slice qa m.stops.length qc) ∧ w'.cell? ⟨qb, 1, none⟩ = some (.slice ra m.lines.length rc))) (by kernel_rfl) ?_ (fun hHeld => ?_)
  · exact ⟨c0, c1, m0, m1, q0, q1⟩
  refine wpAnyH_take (i := 0) (v := ?_) (by simp only [List.getElem?_toArray, List.getElem?_cons_zero]; rfl) (by kernel_rfl) (by kernel_rfl) (by kernel_rfl) (by exact fun _ _ _ h => h) (Or.inl ⟨by rfl, ?_⟩) (by assumption) ?_
  rotate_left
  · intro w' hSw; (try dsimp only at hSw); obtain ⟨e0, e1, e2, e3, e4, e5⟩ := hSw
    go_simp; try with_reducible rfl
  try simp only [Act.put, List.setIfInBounds_toArray, List.set_cons_zero, List.set_cons_succ]
  refine wpAnyH_take (i := 1) (v := ?_) (by simp only [List.getElem?_toArray, List.getElem?_cons_succ, List.getElem?_cons_zero]; rfl) (by kernel_rfl) (by kernel_rfl) (by kernel_rfl) (by exact fun _ _ _ h => h) (Or.inl ⟨by rfl, ?_⟩) (by assumption) ?_
  rotate_left
  · intro w' hSw; (try dsimp only at hSw); obtain ⟨e0, e1, e2, e3, e4, e5⟩ := hSw
    go_simp; try with_reducible rfl
  try simp only [Act.put, List.setIfInBounds_toArray, List.set_cons_zero, List.set_cons_succ]
  refine wpAnyH_take (i := 2) (v := ?_) (by simp only [List.getElem?_toArray, List.getElem?_cons_succ, List.getElem?_cons_zero]; rfl) (by kernel_rfl) (by kernel_rfl) (by kernel_rfl) (by exact fun _ _ _ h => h) (Or.inl ⟨by rfl, ?_⟩) (by assumption) ?_
  rotate_left
  · intro w' hSw; (try dsimp only at hSw); obtain ⟨e0, e1, e2, e3, e4, e5⟩ := hSw
    go_simp; try with_reducible rfl
  try simp only [Act.put, List.setIfInBounds_toArray, List.set_cons_zero, List.set_cons_succ]
  refine wpAnyH_take (i := 3) (v := ?_) (by simp only [List.getElem?_toArray, List.getElem?_cons_succ, List.getElem?_cons_zero]; rfl) (by kernel_rfl) (by kernel_rfl) (by kernel_rfl) (by exact fun _ _ _ h => h) (Or.inl ⟨by rfl, ?_⟩) (by assumption) ?_
  rotate_left
  · intro w' hSw; (try dsimp only at hSw); obtain ⟨e0, e1, e2, e3, e4, e5⟩ := hSw
    go_simp; try with_reducible rfl
  try simp only [Act.put, List.setIfInBounds_toArray, List.set_cons_zero, List.set_cons_succ]
  refine wpAnyH_take (i := 4) (v := ?_) (by simp only [List.getElem?_toArray, List.getElem?_cons_succ, List.getElem?_cons_zero]; rfl) (by kernel_rfl) (by kernel_rfl) (by kernel_rfl) (by exact fun _ _ _ h => h) (Or.inl ⟨by rfl, ?_⟩) (by assumption) ?_
  rotate_left
  · intro w' hSw; (try dsimp only at hSw); obtain ⟨e0, e1, e2, e3, e4, e5⟩ := hSw
    go_simp; try with_reducible rfl
  try simp only [Act.put, List.setIfInBounds_toArray, List.set_cons_zero, List.set_cons_succ]
  refine wpAnyH_take (i := 5) (v := ?_) (by simp only [List.getElem?_toArray, List.getElem?_cons_succ, List.getElem?_cons_zero]; rfl) (by kernel_rfl) (by kernel_rfl) (by kernel_rfl) (by exact fun _ _ _ h => h) (Or.inl ⟨by rfl, ?_⟩) (by assumption) ?_
  rotate_left
  · intro w' hSw; (try dsimp only at hSw); obtain ⟨e0, e1, e2, e3, e4, e5⟩ := hSw
    go_simp; try with_reducible rfl
  try simp only [Act.put, List.setIfInBounds_toArray, List.set_cons_zero, List.set_cons_succ]
  refine wpAnyH_ready (rs := [6]) (by kernel_rfl) (by simp) ?_
  refine AllReadyH.cons (by simp only [List.getElem?_toArray, List.getElem?_cons_succ, List.getElem?_cons_zero]; rfl) (fun K hK => ?_) AllReadyH.nil
  have HIn := Lib.hid (HIn.out.below (Below.refl w6.heap.size w6).drew)
  have HZ := Lib.hid (HZ.out.below rfl (Below.refl w6.heap.size w6).drew)
  go_simp
  go_at_call 10
  refine (vNetwork_any _ _ m _ HIn.out.new HZ.out).mono ?_
  rintro e v1 ⟨rfl, hb⟩
  have hS := keepL hb ⟨c0, c1, m0, m1, q0, q1⟩
  have HIn := Lib.hid (HIn.out.below hb)
  clear hb
  go_wp2_with fail
  refine hK.out _ _ hS (fun hHa1 => ?_)
  clear hK K
  try simp only [Act.put, List.setIfInBounds_toArray, List.set_cons_zero, List.set_cons_succ]
  refine wpAnyH_take (i := 7) (v := ?_) (by simp only [List.getElem?_toArray, List.getElem?_cons_succ, List.getElem?_cons_zero]; rfl) (by kernel_rfl) (by kernel_rfl) (by kernel_rfl) (by exact fun _ _ _ h => h) (Or.inl ⟨by rfl, ?_⟩) (by assumption) ?_
  rotate_left
  · intro w' hSw; (try dsimp only at hSw); obtain ⟨e0, e1, e2, e3, e4, e5⟩ := hSw
    go_simp; try with_reducible rfl
  try simp only [Act.put, List.setIfInBounds_toArray, List.set_cons_zero, List.set_cons_succ]
  refine wpAnyH_take (i := 8) (v := ?_) (by simp only [List.getElem?_toArray, List.getElem?_cons_succ, List.getElem?_cons_zero]; rfl) (by kernel_rfl) (by kernel_rfl) (by kernel_rfl) (by exact fun _ _ _ h => h) (Or.inl ⟨by rfl, ?_⟩) (by assumption) ?_
  rotate_left
  · intro w' hSw; (try dsimp only at hSw); obtain ⟨e0, e1, e2, e3, e4, e5⟩ := hSw
    go_simp; try with_reducible rfl
  try simp only [Act.put, List.setIfInBounds_toArray, List.set_cons_zero, List.set_cons_succ]
  refine wpAnyH_take (i := 9) (v := ?_) (by simp only [List.getElem?_toArray, List.getElem?_cons_succ, List.getElem?_cons_zero]; rfl) (by kernel_rfl) (by kernel_rfl) (by kernel_rfl) (by exact fun _ _ _ h => h) (Or.inl ⟨by rfl, ?_⟩) (by assumption) ?_
  rotate_left
  · intro w' hSw; (try dsimp only at hSw); obtain ⟨e0, e1, e2, e3, e4, e5⟩ := hSw
    go_simp; try with_reducible rfl
  try simp only [Act.put, List.setIfInBounds_toArray, List.set_cons_zero, List.set_cons_succ]
  refine wpAnyH_take (i := 10) (v := ?_) (by simp only [List.getElem?_toArray, List.getElem?_cons_succ, List.getElem?_cons_zero]; rfl) (by kernel_rfl) (by kernel_rfl) (by kernel_rfl) (by exact fun _ _ _ h => h) (Or.inl ⟨by rfl, ?_⟩) (by assumption) ?_
  rotate_left
  · intro w' hSw; (try dsimp only at hSw); obtain ⟨e0, e1, e2, e3, e4, e5⟩ := hSw
    go_simp; try with_reducible rfl
  try simp only [Act.put, List.setIfInBounds_toArray, List.set_cons_zero, List.set_cons_succ]
  refine wpAnyH_take (i := 12) (v := ?_) (by simp only [List.getElem?_toArray, List.getElem?_cons_succ, List.getElem?_cons_zero]; rfl) (by kernel_rfl) (by kernel_rfl) (by kernel_rfl) (by exact fun _ _ _ h => h) (Or.inl ⟨by rfl, ?_⟩) (by assumption) ?_
  rotate_left
  · intro w' hSw; (try dsimp only at hSw); obtain ⟨e0, e1, e2, e3, e4, e5⟩ := hSw
    go_simp; try with_reducible rfl
  try simp only [Act.put, List.setIfInBounds_toArray, List.set_cons_zero, List.set_cons_succ]
  refine wpAnyH_ready (rs := [11]) (by kernel_rfl) (by simp) ?_
  refine AllReadyH.cons (by simp only [List.getElem?_toArray, List.getElem?_cons_succ, List.getElem?_cons_zero]; rfl) (fun K hK => ?_) AllReadyH.nil
  go_simp
  go_at_call 11
  refine (HVa.out _ HIn.out.net HF.out).mono ?_
  rintro e v2 ⟨rfl, hb⟩
  have hS := keepL hb hS
  have HIn := Lib.hid (HIn.out.below hb)
  clear hb
  go_wp2_with fail
  refine hK.out _ _ hS (fun hHa2 => ?_)
  clear hK K
  try simp only [Act.put, List.setIfInBounds_toArray, List.set_cons_zero, List.set_cons_succ]
  refine wpAnyH_ready (rs := [13]) (by kernel_rfl) (by simp) ?_
  refine AllReadyH.cons (by simp only [List.getElem?_toArray, List.getElem?_cons_succ, List.getElem?_cons_zero]; rfl) (fun K hK => ?_) AllReadyH.nil
  go_simp
  go_at_call 12
  refine (HVb.out _ HIn.out.net HF.out).mono ?_
  rintro e v3 ⟨rfl, hb⟩
  have hS := keepL hb hS
  have HIn := Lib.hid (HIn.out.below hb)
  clear hb
  go_wp2_with fail
  refine hK.out _ _ hS (fun hHa3 => ?_)
  clear hK K
  try simp only [Act.put, List.setIfInBounds_toArray, List.set_cons_zero, List.set_cons_succ]
  refine wpAnyH_take (i := 14) (v := ?_) (by simp only [List.getElem?_toArray, List.getElem?_cons_succ, List.getElem?_cons_zero]; rfl) (by kernel_rfl) (by kernel_rfl) (by kernel_rfl) (by exact fun _ _ _ h => h) (Or.inl ⟨by rfl, ?_⟩) (by assumption) ?_
  rotate_left
  · intro w' hSw; (try dsimp only at hSw); obtain ⟨e0, e1, e2, e3, e4, e5⟩ := hSw
    go_simp; try with_reducible rfl
  try simp only [Act.put, List.setIfInBounds_toArray, List.set_cons_zero, List.set_cons_succ]
  refine wpAnyH_take (i := 15) (v := ?_) (by simp only [List.getElem?_toArray, List.getElem?_cons_succ, List.getElem?_cons_zero]; rfl) (by kernel_rfl) (by kernel_rfl) (by kernel_rfl) (by exact fun _ _ _ h => h) (Or.inl ⟨by rfl, ?_⟩) (by assumption) ?_
  rotate_left
  · intro w' hSw; (try dsimp only at hSw); obtain ⟨e0, e1, e2, e3, e4, e5⟩ := hSw
    go_simp; try with_reducible rfl
  try simp only [Act.put, List.setIfInBounds_toArray, List.set_cons_zero, List.set_cons_succ]
  refine wpAnyH_done (by kernel_rfl) ?_ _
  clear hHeld c0 c1 m0 m1 q0 q1 HZ HVa HVb
  obtain ⟨c0, c1, m0, m1, -, -⟩ := hS
  rcases HC.out with ⟨rfl, h0⟩ | ⟨K, rfl, hK, hgd, hgm, hmm, rfl⟩
  · have H0 := Lib.hid h0
    clear h0
    go_wp2_with fail
    go_ret
    exact ⟨by rw [H0.out]; rfl, HIn.out.bel⟩
  · obtain ⟨f1, f2, f3, f4, f5, f6⟩ := back_facts hgd hK hgm
    rw [← hmm] at f3 f4 f5 f6 hgm
    obtain ⟨lb, lo, s0, s1, r0, r1, rfl, hlb, y0, y1, y2, hrs, hrr⟩ := net_line HIn.out.net K hK
    have HGm := Lib.hid hgm
    have hk1 : (K : Int) < (d.lines.length : Int) := by omega
    have hk2 : (0 : Int) ≤ (K : Int) := by omega
    have h5 := hgd.1.2.2.2
    have hwm : IntKind.i64.wrap ((m.lines.length : Int) - 1) = (d.lines.length : Int) := by rw [f3]; push_cast; exact (IntWalk.i64_in _ (by omega)).trans (by omega)
    have HSm := Lib.hid HSm.out
    have HF5 := Lib.hid f5
    have HF4 := Lib.hid f4
    have hpos : 0 < d.lines[K].stops.length := by omega
    have HF6 := Lib.hid (f6 hpos)
    clear f3 f4 f5 f6 hmm hgd hgm HC HS hrr k0 k1 hnm hlb
    generalize d.lines[K] = x at *
    obtain ⟨xn, xs, xr⟩ := x
    simp only at *
    go_wp2_with fail
    obtain ⟨w7, hw7⟩ : ∃ w7 : World, w7 = v3.alloc (.cells #[.string xn, .slice s0 xs.length s1, .slice r0 xr.length r1] 36) := ⟨_, rfl⟩
    have hb7 : Below v3.heap.size v3 w7 := by rw [hw7]; exact (Below.refl _ _).alloc (Nat.le_refl _) _
    have x1 : w7.cell? ⟨v3.heap.size, 1, none⟩ = some (.slice s0 xs.length s1) := by rw [hw7]; go_simp
    rw [← hw7]
    have HIn := Lib.hid (HIn.out.below hb7)
    have HRow := Lib.hid (hrs.below rfl hb7)
    clear hb7 hw7 hrs c0 c1 m0 m1 y0 y1 y2
    generalize v3.heap.size = xb at *
    have HX1 := Lib.hid x1
    clear x1
    go_loopw [12] (fun q wr => ∃ i : Nat, 1 ≤ i ∧ i ≤ xs.length ∧ q = .int .i64 (i : Int) ∧ Hid (Below w7.heap.size w7 wr)) (fun q _ => xs.length - (RowKit.intOf q).toNat)
    case atStart => exact ⟨1, Nat.le_refl _, by omega, rfl, Below.refl _ _⟩
    case round =>
      obtain ⟨i, hi1, hi, rfl, HBr⟩ := hrel
      have HIn := Lib.hid (HIn.out.below HBr.out)
      have HRow := Lib.hid (HRow.out.below rfl HBr.out)
      obtain ⟨-, -, -, c0, c1, m0, m1⟩ := HIn.out
      have x1 := bkeep HBr.out HX1.out
      by_cases hlt : i < xs.length
      · obtain ⟨sm, e1, e2⟩ := HF4.out i (by omega) hlt (by omega)
        obtain ⟨_, _, he, -, -, HX⟩ := ints_open HRow.out
        simp at he
        obtain ⟨rfl, rfl⟩ := he
        obtain ⟨xbk, xo, hza, -, o0⟩ := HX.out 0 (by omega)
        subst hza
        obtain ⟨_, _, hza, -, oi⟩ := HX.out i hlt
        simp at hza
        obtain ⟨rfl, rfl⟩ := hza
        rw [Nat.add_zero] at o0
        have HE1 := Lib.hid e1
        have HE2 := Lib.hid e2
        have hn0 : (0 : Int) < (xs.length : Int) := by omega
        have hni : (i : Int) < (xs.length : Int) := by omega
        have hni0 : (0 : Int) ≤ (i : Int) := by omega
        clear e1 e2 HX
        generalize xs[i] = xi at *
        generalize xs[0] = x0 at *
        have HBw := Lib.hid (Below.drew HBr.out)
        go_wp2_with fail
        refine wp_region_held_drew (S := (fun w' => w'.cell? ⟨nb, 0, none⟩ = some (.slice sa d.stops.length sc) ∧ w'.cell? ⟨nb, 1, none⟩ = some (.slice (some ⟨lb, lo, none⟩) d.lines.length oc) ∧ w'.cell? ⟨mb, 0, none⟩ = some (.slice ma m.stops.length mc) ∧ w'.cell? ⟨mb, 1, none⟩ = some (.slice na m.lines.length nc) ∧ w'.cell? ⟨xb, 1, none⟩ = some (.slice (some ⟨xbk, xo, none⟩) xs.length s1) ∧ w'.cell? ⟨xbk, xo, none⟩ = some (.int .i64 x0) ∧ w'.cell? ⟨xbk, xo + i, none⟩ = some (.int .i64 xi))) (by kernel_rfl) ?_ (fun hHeld => ?_)
        · exact ⟨c0, c1, m0, m1, x1, o0, oi⟩
        refine wpAnyH_take (i := 0) (v := ?_) (by simp only [List.getElem?_toArray, List.getElem?_cons_zero]; rfl) (by kernel_rfl) (by kernel_rfl) (by kernel_rfl) (by exact fun _ _ _ h => h) (Or.inl ⟨by rfl, ?_⟩) (by assumption) ?_
        rotate_left
        · intro w' hSw; (try dsimp only at hSw); obtain ⟨e0, e1, e2, e3, e4, e5, e6⟩ := hSw
          go_simp; try with_reducible rfl
        try simp only [Act.put, List.setIfInBounds_toArray, List.set_cons_zero, List.set_cons_succ]
        refine wpAnyH_take (i := 1) (v := ?_) (by simp only [List.getElem?_toArray, List.getElem?_cons_succ, List.getElem?_cons_zero]; rfl) (by kernel_rfl) (by kernel_rfl) (by kernel_rfl) (by exact fun _ _ _ h => h) (Or.inl ⟨by rfl, ?_⟩) (by assumption) ?_
        rotate_left
        · intro w' hSw; (try dsimp only at hSw); obtain ⟨e0, e1, e2, e3, e4, e5, e6⟩ := hSw
          go_simp; try with_reducible rfl
        try simp only [Act.put, List.setIfInBounds_toArray, List.set_cons_zero, List.set_cons_succ]
        refine wpAnyH_take (i := 2) (v := ?_) (by simp only [List.getElem?_toArray, List.getElem?_cons_succ, List.getElem?_cons_zero]; rfl) (by kernel_rfl) (by kernel_rfl) (by kernel_rfl) (by exact fun _ _ _ h => h) (Or.inl ⟨by rfl, ?_⟩) (by assumption) ?_
        rotate_left
        · intro w' hSw; (try dsimp only at hSw); obtain ⟨e0, e1, e2, e3, e4, e5, e6⟩ := hSw
          go_simp; try with_reducible rfl
        try simp only [Act.put, List.setIfInBounds_toArray, List.set_cons_zero, List.set_cons_succ]
        refine wpAnyH_take (i := 3) (v := ?_) (by simp only [List.getElem?_toArray, List.getElem?_cons_succ, List.getElem?_cons_zero]; rfl) (by kernel_rfl) (by kernel_rfl) (by kernel_rfl) (by exact fun _ _ _ h => h) (Or.inl ⟨by rfl, ?_⟩) (by assumption) ?_
        rotate_left
        · intro w' hSw; (try dsimp only at hSw); obtain ⟨e0, e1, e2, e3, e4, e5, e6⟩ := hSw
          go_simp; try with_reducible rfl
        try simp only [Act.put, List.setIfInBounds_toArray, List.set_cons_zero, List.set_cons_succ]
        refine wpAnyH_take (i := 4) (v := ?_) (by simp only [List.getElem?_toArray, List.getElem?_cons_succ, List.getElem?_cons_zero]; rfl) (by kernel_rfl) (by kernel_rfl) (by kernel_rfl) (by exact fun _ _ _ h => h) (Or.inl ⟨by rfl, ?_⟩) (by assumption) ?_
        rotate_left
        · intro w' hSw; (try dsimp only at hSw); obtain ⟨e0, e1, e2, e3, e4, e5, e6⟩ := hSw
          go_simp; try with_reducible rfl
        try simp only [Act.put, List.setIfInBounds_toArray, List.set_cons_zero, List.set_cons_succ]
        refine wpAnyH_take (i := 5) (v := ?_) (by simp only [List.getElem?_toArray, List.getElem?_cons_succ, List.getElem?_cons_zero]; rfl) (by kernel_rfl) (by kernel_rfl) (by kernel_rfl) (by exact fun _ _ _ h => h) (Or.inl ⟨by rfl, ?_⟩) (by assumption) ?_
        rotate_left
        · intro w' hSw; (try dsimp only at hSw); obtain ⟨e0, e1, e2, e3, e4, e5, e6⟩ := hSw
          go_simp; try with_reducible rfl
        try simp only [Act.put, List.setIfInBounds_toArray, List.set_cons_zero, List.set_cons_succ]
        refine wpAnyH_take (i := 6) (v := ?_) (by simp only [List.getElem?_toArray, List.getElem?_cons_succ, List.getElem?_cons_zero]; rfl) (by kernel_rfl) (by kernel_rfl) (by kernel_rfl) (by exact fun _ _ _ h => h) (Or.inl ⟨by rfl, ?_⟩) (by assumption) ?_
        rotate_left
        · intro w' hSw; (try dsimp only at hSw); obtain ⟨e0, e1, e2, e3, e4, e5, e6⟩ := hSw
          go_simp; try with_reducible rfl
        try simp only [Act.put, List.setIfInBounds_toArray, List.set_cons_zero, List.set_cons_succ]
        refine wpAnyH_take (i := 7) (v := ?_) (by simp only [List.getElem?_toArray, List.getElem?_cons_succ, List.getElem?_cons_zero]; rfl) (by kernel_rfl) (by kernel_rfl) (by kernel_rfl) (by exact fun _ _ _ h => h) (Or.inl ⟨by rfl, ?_⟩) (by assumption) ?_
        rotate_left
        · intro w' hSw; (try dsimp only at hSw); obtain ⟨e0, e1, e2, e3, e4, e5, e6⟩ := hSw
          go_simp; try with_reducible rfl
        try simp only [Act.put, List.setIfInBounds_toArray, List.set_cons_zero, List.set_cons_succ]
        refine wpAnyH_take (i := 8) (v := ?_) (by simp only [List.getElem?_toArray, List.getElem?_cons_succ, List.getElem?_cons_zero]; rfl) (by kernel_rfl) (by kernel_rfl) (by kernel_rfl) (by exact fun _ _ _ h => h) (Or.inl ⟨by rfl, ?_⟩) (by assumption) ?_
        rotate_left
        · intro w' hSw; (try dsimp only at hSw); obtain ⟨e0, e1, e2, e3, e4, e5, e6⟩ := hSw
          go_simp; try with_reducible rfl
        try simp only [Act.put, List.setIfInBounds_toArray, List.set_cons_zero, List.set_cons_succ]
        refine wpAnyH_take (i := 9) (v := ?_) (by simp only [List.getElem?_toArray, List.getElem?_cons_succ, List.getElem?_cons_zero]; rfl) (by kernel_rfl) (by kernel_rfl) (by kernel_rfl) (by exact fun _ _ _ h => h) (Or.inl ⟨by rfl, ?_⟩) (by assumption) ?_
        rotate_left
        · intro w' hSw; (try dsimp only at hSw); obtain ⟨e0, e1, e2, e3, e4, e5, e6⟩ := hSw
          go_simp; try with_reducible rfl
        try simp only [Act.put, List.setIfInBounds_toArray, List.set_cons_zero, List.set_cons_succ]
        refine wpAnyH_take (i := 10) (v := ?_) (by simp only [List.getElem?_toArray, List.getElem?_cons_succ, List.getElem?_cons_zero]; rfl) (by kernel_rfl) (by kernel_rfl) (by kernel_rfl) (by exact fun _ _ _ h => h) (Or.inl ⟨by rfl, ?_⟩) (by assumption) ?_
        rotate_left
        · intro w' hSw; (try dsimp only at hSw); obtain ⟨e0, e1, e2, e3, e4, e5, e6⟩ := hSw
          go_simp; try with_reducible rfl
        try simp only [Act.put, List.setIfInBounds_toArray, List.set_cons_zero, List.set_cons_succ]
        refine wpAnyH_ready (rs := [11]) (by kernel_rfl) (by simp) ?_
        refine AllReadyH.cons (by simp only [List.getElem?_toArray, List.getElem?_cons_succ, List.getElem?_cons_zero]; rfl) (fun K hK => ?_) AllReadyH.nil
        have HIn := Lib.hid (HIn.out.below (Below.refl wr.heap.size wr).drew)
        go_simp
        go_at_call 13
        refine (run_at HIn.out.net HF.out HE1.out).mono ?_
        rintro e u1 ⟨rfl, hb⟩
        have hS := keepL7 hb ⟨c0, c1, m0, m1, x1, o0, oi⟩
        have HIn := Lib.hid (HIn.out.below hb)
        have HBw := Lib.hid (HBw.out.trans (hb.mono HBw.out.size))
        clear hb
        go_wp2_with fail
        refine hK.out _ _ hS (fun hHa1 => ?_)
        clear hK K
        try simp only [Act.put, List.setIfInBounds_toArray, List.set_cons_zero, List.set_cons_succ]
        refine wpAnyH_take (i := 12) (v := ?_) (by simp only [List.getElem?_toArray, List.getElem?_cons_succ, List.getElem?_cons_zero]; rfl) (by kernel_rfl) (by kernel_rfl) (by kernel_rfl) (by exact fun _ _ _ h => h) (Or.inl ⟨by rfl, ?_⟩) (by assumption) ?_
        rotate_left
        · intro w' hSw; (try dsimp only at hSw); obtain ⟨e0, e1, e2, e3, e4, e5, e6⟩ := hSw
          go_simp; try with_reducible rfl
        try simp only [Act.put, List.setIfInBounds_toArray, List.set_cons_zero, List.set_cons_succ]
        refine wpAnyH_take (i := 13) (v := ?_) (by simp only [List.getElem?_toArray, List.getElem?_cons_succ, List.getElem?_cons_zero]; rfl) (by kernel_rfl) (by kernel_rfl) (by kernel_rfl) (by exact fun _ _ _ h => h) (Or.inl ⟨by rfl, ?_⟩) (by assumption) ?_
        rotate_left
        · intro w' hSw; (try dsimp only at hSw); obtain ⟨e0, e1, e2, e3, e4, e5, e6⟩ := hSw
          go_simp; try with_reducible rfl
        try simp only [Act.put, List.setIfInBounds_toArray, List.set_cons_zero, List.set_cons_succ]
        refine wpAnyH_take (i := 14) (v := ?_) (by simp only [List.getElem?_toArray, List.getElem?_cons_succ, List.getElem?_cons_zero]; rfl) (by kernel_rfl) (by kernel_rfl) (by kernel_rfl) (by exact fun _ _ _ h => h) (Or.inl ⟨by rfl, ?_⟩) (by assumption) ?_
        rotate_left
        · intro w' hSw; (try dsimp only at hSw); obtain ⟨e0, e1, e2, e3, e4, e5, e6⟩ := hSw
          go_simp; try with_reducible rfl
        try simp only [Act.put, List.setIfInBounds_toArray, List.set_cons_zero, List.set_cons_succ]
        refine wpAnyH_take (i := 15) (v := ?_) (by simp only [List.getElem?_toArray, List.getElem?_cons_succ, List.getElem?_cons_zero]; rfl) (by kernel_rfl) (by kernel_rfl) (by kernel_rfl) (by exact fun _ _ _ h => h) (Or.inl ⟨by rfl, ?_⟩) (by assumption) ?_
        rotate_left
        · intro w' hSw; (try dsimp only at hSw); obtain ⟨e0, e1, e2, e3, e4, e5, e6⟩ := hSw
          go_simp; try with_reducible rfl
        try simp only [Act.put, List.setIfInBounds_toArray, List.set_cons_zero, List.set_cons_succ]
        refine wpAnyH_take (i := 16) (v := ?_) (by simp only [List.getElem?_toArray, List.getElem?_cons_succ, List.getElem?_cons_zero]; rfl) (by kernel_rfl) (by kernel_rfl) (by kernel_rfl) (by exact fun _ _ _ h => h) (Or.inl ⟨by rfl, ?_⟩) (by assumption) ?_
        rotate_left
        · intro w' hSw; (try dsimp only at hSw); obtain ⟨e0, e1, e2, e3, e4, e5, e6⟩ := hSw
          go_simp; try with_reducible rfl
        try simp only [Act.put, List.setIfInBounds_toArray, List.set_cons_zero, List.set_cons_succ]
        refine wpAnyH_done (by kernel_rfl) ?_ _
        clear hHeld c0 c1 m0 m1 x1 o0 oi
        obtain ⟨c0, c1, m0, m1, x1, o0, oi⟩ := hS
        have HBw := Lib.hid (Below.drew HBw.out)
        go_wp2_with fail
        refine wp_region_held_drew (S := (fun w' => w'.cell? ⟨nb, 0, none⟩ = some (.slice sa d.stops.length sc) ∧ w'.cell? ⟨nb, 1, none⟩ = some (.slice (some ⟨lb, lo, none⟩) d.lines.length oc) ∧ w'.cell? ⟨mb, 0, none⟩ = some (.slice ma m.stops.length mc) ∧ w'.cell? ⟨mb, 1, none⟩ = some (.slice na m.lines.length nc) ∧ w'.cell? ⟨xb, 1, none⟩ = some (.slice (some ⟨xbk, xo, none⟩) xs.length s1) ∧ w'.cell? ⟨xbk, xo, none⟩ = some (.int .i64 x0) ∧ w'.cell? ⟨xbk, xo + i, none⟩ = some (.int .i64 xi))) (by kernel_rfl) ?_ (fun hHeld => ?_)
        · exact ⟨c0, c1, m0, m1, x1, o0, oi⟩
        refine wpAnyH_take (i := 0) (v := ?_) (by simp only [List.getElem?_toArray, List.getElem?_cons_zero]; rfl) (by kernel_rfl) (by kernel_rfl) (by kernel_rfl) (by exact fun _ _ _ h => h) (Or.inl ⟨by rfl, ?_⟩) (by assumption) ?_
        rotate_left
        · intro w' hSw; (try dsimp only at hSw); obtain ⟨e0, e1, e2, e3, e4, e5, e6⟩ := hSw
          go_simp; try with_reducible rfl
        try simp only [Act.put, List.setIfInBounds_toArray, List.set_cons_zero, List.set_cons_succ]
        refine wpAnyH_take (i := 1) (v := ?_) (by simp only [List.getElem?_toArray, List.getElem?_cons_succ, List.getElem?_cons_zero]; rfl) (by kernel_rfl) (by kernel_rfl) (by kernel_rfl) (by exact fun _ _ _ h => h) (Or.inl ⟨by rfl, ?_⟩) (by assumption) ?_
        rotate_left
        · intro w' hSw; (try dsimp only at hSw); obtain ⟨e0, e1, e2, e3, e4, e5, e6⟩ := hSw
          go_simp; try with_reducible rfl
        try simp only [Act.put, List.setIfInBounds_toArray, List.set_cons_zero, List.set_cons_succ]
        refine wpAnyH_take (i := 2) (v := ?_) (by simp only [List.getElem?_toArray, List.getElem?_cons_succ, List.getElem?_cons_zero]; rfl) (by kernel_rfl) (by kernel_rfl) (by kernel_rfl) (by exact fun _ _ _ h => h) (Or.inl ⟨by rfl, ?_⟩) (by assumption) ?_
        rotate_left
        · intro w' hSw; (try dsimp only at hSw); obtain ⟨e0, e1, e2, e3, e4, e5, e6⟩ := hSw
          go_simp; try with_reducible rfl
        try simp only [Act.put, List.setIfInBounds_toArray, List.set_cons_zero, List.set_cons_succ]
        refine wpAnyH_take (i := 3) (v := ?_) (by simp only [List.getElem?_toArray, List.getElem?_cons_succ, List.getElem?_cons_zero]; rfl) (by kernel_rfl) (by kernel_rfl) (by kernel_rfl) (by exact fun _ _ _ h => h) (Or.inl ⟨by rfl, ?_⟩) (by assumption) ?_
        rotate_left
        · intro w' hSw; (try dsimp only at hSw); obtain ⟨e0, e1, e2, e3, e4, e5, e6⟩ := hSw
          go_simp; try with_reducible rfl
        try simp only [Act.put, List.setIfInBounds_toArray, List.set_cons_zero, List.set_cons_succ]
        refine wpAnyH_take (i := 4) (v := ?_) (by simp only [List.getElem?_toArray, List.getElem?_cons_succ, List.getElem?_cons_zero]; rfl) (by kernel_rfl) (by kernel_rfl) (by kernel_rfl) (by exact fun _ _ _ h => h) (Or.inl ⟨by rfl, ?_⟩) (by assumption) ?_
        rotate_left
        · intro w' hSw; (try dsimp only at hSw); obtain ⟨e0, e1, e2, e3, e4, e5, e6⟩ := hSw
          go_simp; try with_reducible rfl
        try simp only [Act.put, List.setIfInBounds_toArray, List.set_cons_zero, List.set_cons_succ]
        refine wpAnyH_take (i := 5) (v := ?_) (by simp only [List.getElem?_toArray, List.getElem?_cons_succ, List.getElem?_cons_zero]; rfl) (by kernel_rfl) (by kernel_rfl) (by kernel_rfl) (by exact fun _ _ _ h => h) (Or.inl ⟨by rfl, ?_⟩) (by assumption) ?_
        rotate_left
        · intro w' hSw; (try dsimp only at hSw); obtain ⟨e0, e1, e2, e3, e4, e5, e6⟩ := hSw
          go_simp; try with_reducible rfl
        try simp only [Act.put, List.setIfInBounds_toArray, List.set_cons_zero, List.set_cons_succ]
        refine wpAnyH_take (i := 6) (v := ?_) (by simp only [List.getElem?_toArray, List.getElem?_cons_succ, List.getElem?_cons_zero]; rfl) (by kernel_rfl) (by kernel_rfl) (by kernel_rfl) (by exact fun _ _ _ h => h) (Or.inl ⟨by rfl, ?_⟩) (by assumption) ?_
        rotate_left
        · intro w' hSw; (try dsimp only at hSw); obtain ⟨e0, e1, e2, e3, e4, e5, e6⟩ := hSw
          go_simp; try with_reducible rfl
        try simp only [Act.put, List.setIfInBounds_toArray, List.set_cons_zero, List.set_cons_succ]
        refine wpAnyH_take (i := 7) (v := ?_) (by simp only [List.getElem?_toArray, List.getElem?_cons_succ, List.getElem?_cons_zero]; rfl) (by kernel_rfl) (by kernel_rfl) (by kernel_rfl) (by exact fun _ _ _ h => h) (Or.inl ⟨by rfl, ?_⟩) (by assumption) ?_
        rotate_left
        · intro w' hSw; (try dsimp only at hSw); obtain ⟨e0, e1, e2, e3, e4, e5, e6⟩ := hSw
          go_simp; try with_reducible rfl
        try simp only [Act.put, List.setIfInBounds_toArray, List.set_cons_zero, List.set_cons_succ]
        refine wpAnyH_take (i := 8) (v := ?_) (by simp only [List.getElem?_toArray, List.getElem?_cons_succ, List.getElem?_cons_zero]; rfl) (by kernel_rfl) (by kernel_rfl) (by kernel_rfl) (by exact fun _ _ _ h => h) (Or.inl ⟨by rfl, ?_⟩) (by assumption) ?_
        rotate_left
        · intro w' hSw; (try dsimp only at hSw); obtain ⟨e0, e1, e2, e3, e4, e5, e6⟩ := hSw
          go_simp; try with_reducible rfl
        try simp only [Act.put, List.setIfInBounds_toArray, List.set_cons_zero, List.set_cons_succ]
        refine wpAnyH_take (i := 9) (v := ?_) (by simp only [List.getElem?_toArray, List.getElem?_cons_succ, List.getElem?_cons_zero]; rfl) (by kernel_rfl) (by kernel_rfl) (by kernel_rfl) (by exact fun _ _ _ h => h) (Or.inl ⟨by rfl, ?_⟩) (by assumption) ?_
        rotate_left
        · intro w' hSw; (try dsimp only at hSw); obtain ⟨e0, e1, e2, e3, e4, e5, e6⟩ := hSw
          go_simp; try with_reducible rfl
        try simp only [Act.put, List.setIfInBounds_toArray, List.set_cons_zero, List.set_cons_succ]
        refine wpAnyH_take (i := 10) (v := ?_) (by simp only [List.getElem?_toArray, List.getElem?_cons_succ, List.getElem?_cons_zero]; rfl) (by kernel_rfl) (by kernel_rfl) (by kernel_rfl) (by exact fun _ _ _ h => h) (Or.inl ⟨by rfl, ?_⟩) (by assumption) ?_
        rotate_left
        · intro w' hSw; (try dsimp only at hSw); obtain ⟨e0, e1, e2, e3, e4, e5, e6⟩ := hSw
          go_simp; try with_reducible rfl
        try simp only [Act.put, List.setIfInBounds_toArray, List.set_cons_zero, List.set_cons_succ]
        refine wpAnyH_ready (rs := [11]) (by kernel_rfl) (by simp) ?_
        refine AllReadyH.cons (by simp only [List.getElem?_toArray, List.getElem?_cons_succ, List.getElem?_cons_zero]; rfl) (fun K hK => ?_) AllReadyH.nil
        have HIn := Lib.hid (HIn.out.below (Below.refl u1.heap.size u1).drew)
        go_simp
        go_at_call 13
        refine (run_at HIn.out.new HFm.out HE2.out).mono ?_
        rintro e u2 ⟨rfl, hb⟩
        have hS := keepL7 hb ⟨c0, c1, m0, m1, x1, o0, oi⟩
        have HIn := Lib.hid (HIn.out.below hb)
        have HBw := Lib.hid (HBw.out.trans (hb.mono HBw.out.size))
        clear hb
        go_wp2_with fail
        refine hK.out _ _ hS (fun hHa2 => ?_)
        clear hK K
        try simp only [Act.put, List.setIfInBounds_toArray, List.set_cons_zero, List.set_cons_succ]
        refine wpAnyH_take (i := 12) (v := ?_) (by simp only [List.getElem?_toArray, List.getElem?_cons_succ, List.getElem?_cons_zero]; rfl) (by kernel_rfl) (by kernel_rfl) (by kernel_rfl) (by exact fun _ _ _ h => h) (Or.inl ⟨by rfl, ?_⟩) (by assumption) ?_
        rotate_left
        · intro w' hSw; (try dsimp only at hSw); obtain ⟨e0, e1, e2, e3, e4, e5, e6⟩ := hSw
          go_simp; try with_reducible rfl
        try simp only [Act.put, List.setIfInBounds_toArray, List.set_cons_zero, List.set_cons_succ]
        refine wpAnyH_take (i := 13) (v := ?_) (by simp only [List.getElem?_toArray, List.getElem?_cons_succ, List.getElem?_cons_zero]; rfl) (by kernel_rfl) (by kernel_rfl) (by kernel_rfl) (by exact fun _ _ _ h => h) (Or.inl ⟨by rfl, ?_⟩) (by assumption) ?_
        rotate_left
        · intro w' hSw; (try dsimp only at hSw); obtain ⟨e0, e1, e2, e3, e4, e5, e6⟩ := hSw
          go_simp; try with_reducible rfl
        try simp only [Act.put, List.setIfInBounds_toArray, List.set_cons_zero, List.set_cons_succ]
        refine wpAnyH_take (i := 14) (v := ?_) (by simp only [List.getElem?_toArray, List.getElem?_cons_succ, List.getElem?_cons_zero]; rfl) (by kernel_rfl) (by kernel_rfl) (by kernel_rfl) (by exact fun _ _ _ h => h) (Or.inl ⟨by rfl, ?_⟩) (by assumption) ?_
        rotate_left
        · intro w' hSw; (try dsimp only at hSw); obtain ⟨e0, e1, e2, e3, e4, e5, e6⟩ := hSw
          go_simp; try with_reducible rfl
        try simp only [Act.put, List.setIfInBounds_toArray, List.set_cons_zero, List.set_cons_succ]
        refine wpAnyH_take (i := 15) (v := ?_) (by simp only [List.getElem?_toArray, List.getElem?_cons_succ, List.getElem?_cons_zero]; rfl) (by kernel_rfl) (by kernel_rfl) (by kernel_rfl) (by exact fun _ _ _ h => h) (Or.inl ⟨by rfl, ?_⟩) (by assumption) ?_
        rotate_left
        · intro w' hSw; (try dsimp only at hSw); obtain ⟨e0, e1, e2, e3, e4, e5, e6⟩ := hSw
          go_simp; try with_reducible rfl
        try simp only [Act.put, List.setIfInBounds_toArray, List.set_cons_zero, List.set_cons_succ]
        refine wpAnyH_take (i := 16) (v := ?_) (by simp only [List.getElem?_toArray, List.getElem?_cons_succ, List.getElem?_cons_zero]; rfl) (by kernel_rfl) (by kernel_rfl) (by kernel_rfl) (by exact fun _ _ _ h => h) (Or.inl ⟨by rfl, ?_⟩) (by assumption) ?_
        rotate_left
        · intro w' hSw; (try dsimp only at hSw); obtain ⟨e0, e1, e2, e3, e4, e5, e6⟩ := hSw
          go_simp; try with_reducible rfl
        try simp only [Act.put, List.setIfInBounds_toArray, List.set_cons_zero, List.set_cons_succ]
        refine wpAnyH_done (by kernel_rfl) ?_ _
        clear hHeld c0 c1 m0 m1 x1 o0 oi hS
        go_wp2_with fail
        go_roundw
        case rel => exact ⟨i + 1, by omega, by omega, by go_num, HBw.out⟩
        case measure => simp [RowKit.intOf] <;> omega
      · obtain rfl : i = xs.length := by omega
        clear hlt hi1 hi
        obtain ⟨_, _, he, -, -, HX⟩ := ints_open HRow.out
        simp at he
        obtain ⟨rfl, rfl⟩ := he
        obtain ⟨xbk, xo, hza, -, o0⟩ := HX.out 0 (by omega)
        subst hza
        rw [Nat.add_zero] at o0
        have hn0 : (0 : Int) < (xs.length : Int) := by omega
        clear HX HF4 HBr HRow
        generalize xs[0] = x0 at *
        go_wp2_with fail
        go_at_call 14
        refine (no_at HIn.out.new HFm.out HGm.out HF5.out).mono ?_
        rintro e u1 ⟨rfl, hb⟩
        have hS := keepL hb ⟨c0, c1, m0, m1, x1, o0⟩
        have HIn := Lib.hid (HIn.out.below hb)
        clear hb c0 c1 m0 m1 x1 o0
        obtain ⟨c0, c1, m0, m1, x1, o0⟩ := hS
        go_wp2_with fail
        refine wp_region_held_drew (S := (fun w' => w'.cell? ⟨nb, 0, none⟩ = some (.slice sa d.stops.length sc) ∧ w'.cell? ⟨nb, 1, none⟩ = some (.slice (some ⟨lb, lo, none⟩) d.lines.length oc) ∧ w'.cell? ⟨mb, 0, none⟩ = some (.slice ma m.stops.length mc) ∧ w'.cell? ⟨mb, 1, none⟩ = some (.slice na m.lines.length nc) ∧ w'.cell? ⟨xb, 1, none⟩ = some (.slice (some ⟨xbk, xo, none⟩) xs.length s1) ∧ w'.cell? ⟨xbk, xo, none⟩ = some (.int .i64 x0))) (by kernel_rfl) ?_ (fun hHeld => ?_)
        · exact ⟨c0, c1, m0, m1, x1, o0⟩
        refine wpAnyH_take (i := 0) (v := ?_) (by simp only [List.getElem?_toArray, List.getElem?_cons_zero]; rfl) (by kernel_rfl) (by kernel_rfl) (by kernel_rfl) (by exact fun _ _ _ h => h) (Or.inl ⟨by rfl, ?_⟩) (by assumption) ?_
        rotate_left
        · intro w' hSw; (try dsimp only at hSw); obtain ⟨e0, e1, e2, e3, e4, e5⟩ := hSw
          go_simp; try with_reducible rfl
        try simp only [Act.put, List.setIfInBounds_toArray, List.set_cons_zero, List.set_cons_succ]
        refine wpAnyH_take (i := 1) (v := ?_) (by simp only [List.getElem?_toArray, List.getElem?_cons_succ, List.getElem?_cons_zero]; rfl) (by kernel_rfl) (by kernel_rfl) (by kernel_rfl) (by exact fun _ _ _ h => h) (Or.inl ⟨by rfl, ?_⟩) (by assumption) ?_
        rotate_left
        · intro w' hSw; (try dsimp only at hSw); obtain ⟨e0, e1, e2, e3, e4, e5⟩ := hSw
          go_simp; try with_reducible rfl
        try simp only [Act.put, List.setIfInBounds_toArray, List.set_cons_zero, List.set_cons_succ]
        refine wpAnyH_take (i := 2) (v := ?_) (by simp only [List.getElem?_toArray, List.getElem?_cons_succ, List.getElem?_cons_zero]; rfl) (by kernel_rfl) (by kernel_rfl) (by kernel_rfl) (by exact fun _ _ _ h => h) (Or.inl ⟨by rfl, ?_⟩) (by assumption) ?_
        rotate_left
        · intro w' hSw; (try dsimp only at hSw); obtain ⟨e0, e1, e2, e3, e4, e5⟩ := hSw
          go_simp; try with_reducible rfl
        try simp only [Act.put, List.setIfInBounds_toArray, List.set_cons_zero, List.set_cons_succ]
        refine wpAnyH_take (i := 3) (v := ?_) (by simp only [List.getElem?_toArray, List.getElem?_cons_succ, List.getElem?_cons_zero]; rfl) (by kernel_rfl) (by kernel_rfl) (by kernel_rfl) (by exact fun _ _ _ h => h) (Or.inl ⟨by rfl, ?_⟩) (by assumption) ?_
        rotate_left
        · intro w' hSw; (try dsimp only at hSw); obtain ⟨e0, e1, e2, e3, e4, e5⟩ := hSw
          go_simp; try with_reducible rfl
        try simp only [Act.put, List.setIfInBounds_toArray, List.set_cons_zero, List.set_cons_succ]
        refine wpAnyH_take (i := 4) (v := ?_) (by simp only [List.getElem?_toArray, List.getElem?_cons_succ, List.getElem?_cons_zero]; rfl) (by kernel_rfl) (by kernel_rfl) (by kernel_rfl) (by exact fun _ _ _ h => h) (Or.inl ⟨by rfl, ?_⟩) (by assumption) ?_
        rotate_left
        · intro w' hSw; (try dsimp only at hSw); obtain ⟨e0, e1, e2, e3, e4, e5⟩ := hSw
          go_simp; try with_reducible rfl
        try simp only [Act.put, List.setIfInBounds_toArray, List.set_cons_zero, List.set_cons_succ]
        refine wpAnyH_ready (rs := [5]) (by kernel_rfl) (by simp) ?_
        refine AllReadyH.cons (by simp only [List.getElem?_toArray, List.getElem?_cons_succ, List.getElem?_cons_zero]; rfl) (fun K hK => ?_) AllReadyH.nil
        have HIn := Lib.hid (HIn.out.below (Below.refl u1.heap.size u1).drew)
        go_simp
        go_at_call 15
        refine (la_at HIn.out.new HFm.out HSm.out HF6.out.1).mono ?_
        rintro e u2 ⟨⟨z, rfl, hrow⟩, hb⟩
        have HRw := Lib.hid hrow
        obtain ⟨za, zc, rfl, -, -, -⟩ := ints_open hrow
        have hS := keepL hb ⟨c0, c1, m0, m1, x1, o0⟩
        have HIn := Lib.hid (HIn.out.below hb)
        clear hb hrow
        go_wp2_with fail
        refine hK.out _ _ hS (fun hHa2 => ?_)
        clear hK K
        try simp only [Act.put, List.setIfInBounds_toArray, List.set_cons_zero, List.set_cons_succ]
        refine wpAnyH_take (i := 6) (v := ?_) (by simp only [List.getElem?_toArray, List.getElem?_cons_succ, List.getElem?_cons_zero]; rfl) (by kernel_rfl) (by kernel_rfl) (by kernel_rfl) (by exact fun _ _ _ h => h) (Or.inl ⟨by rfl, ?_⟩) (by assumption) ?_
        rotate_left
        · intro w' hSw; (try dsimp only at hSw); obtain ⟨e0, e1, e2, e3, e4, e5⟩ := hSw
          go_simp; try with_reducible rfl
        try simp only [Act.put, List.setIfInBounds_toArray, List.set_cons_zero, List.set_cons_succ]
        refine wpAnyH_take (i := 7) (v := ?_) (by simp only [List.getElem?_toArray, List.getElem?_cons_succ, List.getElem?_cons_zero]; rfl) (by kernel_rfl) (by kernel_rfl) (by kernel_rfl) (by exact fun _ _ _ h => h) (Or.inl ⟨by rfl, ?_⟩) (by assumption) ?_
        rotate_left
        · intro w' hSw; (try dsimp only at hSw); obtain ⟨e0, e1, e2, e3, e4, e5⟩ := hSw
          go_simp; try with_reducible rfl
        try simp only [Act.put, List.setIfInBounds_toArray, List.set_cons_zero, List.set_cons_succ]
        refine wpAnyH_take (i := 8) (v := ?_) (by simp only [List.getElem?_toArray, List.getElem?_cons_succ, List.getElem?_cons_zero]; rfl) (by kernel_rfl) (by kernel_rfl) (by kernel_rfl) (by exact fun _ _ _ h => h) (Or.inl ⟨by rfl, ?_⟩) (by assumption) ?_
        rotate_left
        · intro w' hSw; (try dsimp only at hSw); obtain ⟨e0, e1, e2, e3, e4, e5⟩ := hSw
          go_simp; try with_reducible rfl
        try simp only [Act.put, List.setIfInBounds_toArray, List.set_cons_zero, List.set_cons_succ]
        refine wpAnyH_take (i := 9) (v := ?_) (by simp only [List.getElem?_toArray, List.getElem?_cons_succ, List.getElem?_cons_zero]; rfl) (by kernel_rfl) (by kernel_rfl) (by kernel_rfl) (by exact fun _ _ _ h => h) (Or.inl ⟨by rfl, ?_⟩) (by assumption) ?_
        rotate_left
        · intro w' hSw; (try dsimp only at hSw); obtain ⟨e0, e1, e2, e3, e4, e5⟩ := hSw
          go_simp; try with_reducible rfl
        try simp only [Act.put, List.setIfInBounds_toArray, List.set_cons_zero, List.set_cons_succ]
        refine wpAnyH_take (i := 10) (v := ?_) (by simp only [List.getElem?_toArray, List.getElem?_cons_succ, List.getElem?_cons_zero]; rfl) (by kernel_rfl) (by kernel_rfl) (by kernel_rfl) (by exact fun _ _ _ h => h) (Or.inl ⟨by rfl, ?_⟩) (by assumption) ?_
        rotate_left
        · intro w' hSw; (try dsimp only at hSw); obtain ⟨e0, e1, e2, e3, e4, e5⟩ := hSw
          go_simp; try with_reducible rfl
        try simp only [Act.put, List.setIfInBounds_toArray, List.set_cons_zero, List.set_cons_succ]
        refine wpAnyH_done (by kernel_rfl) ?_ _
        clear hHeld c0 c1 m0 m1 x1 o0 hS
        go_wp2_with fail
        go_at_call 16
        refine (vHas_any _ _ (K : Int) _ HRw.out HF6.out.2.1).mono ?_
        rintro e u3 ⟨rfl, hb⟩
        have HRw := Lib.hid (HRw.out.below rfl hb)
        have HIn := Lib.hid (HIn.out.below hb)
        clear hb
        go_wp2_with fail
        go_at_call 16
        refine (vHas_any _ _ (d.lines.length : Int) _ HRw.out HF6.out.2.2).mono ?_
        rintro e u4 ⟨rfl, hb⟩
        have HIn := Lib.hid (HIn.out.below hb)
        clear hb
        go_wp2_with fail
        go_ret
        exact ⟨rfl, HIn.out.bel⟩
end Go.Proofs.Ytemejcbilhcebaa.fnLines
