import Derived.Test.YtfgkfdkdjegaiaaMk38
import Derived.Test.YtfgkfdkdjegaiaaMk39
import Derived.Test.YtfgkfdkdjegaiaaDrawTw
import Derived.Test.YtfgkfdkdjegaiaaDrawEven
import Derived.Test.YtfgkfdkdjegaiaaBestOffsets
import Derived.Test.YtfgkfdkdjegaiaaTransfer
import Derived.Deep.DeepCutAuto
import Derived.Deep.RegionLaw
import Derived.BigQuiet
namespace Go.Proofs.Ytfgkfdkdjegaiaa.fnOffsets
open Go.RowKit
set_option linter.unusedVariables false
set_option linter.unusedSimpArgs false

def In10 (W w : World) (nb : Nat) (u0 u1 nv lv : Value) (d : NetD) (xs : List PatternD) : Prop := Below W.heap.size W w ∧ NetAt w nv d ∧ PatternsAt w lv xs ∧ w.cell? ⟨nb, 0, none⟩ = some u0 ∧ w.cell? ⟨nb, 1, none⟩ = some u1
theorem In10.below {W w w' : World} {nb : Nat} {u0 u1 nv lv : Value} {d : NetD} {xs : List PatternD} (h : In10 W w nb u0 u1 nv lv d xs) (hb : Below w.heap.size w w') : In10 W w' nb u0 u1 nv lv d xs :=
  ⟨h.1.trans (hb.mono h.1.size), h.2.1.below rfl hb, h.2.2.1.below rfl hb, bkeep hb h.2.2.2.1, bkeep hb h.2.2.2.2⟩
theorem In10.of {W w0 w1 : World} {a : Option Addr} {c : Nat} {oa : Option Addr} {oc : Nat} {lv : Value} {d : NetD} {xs : List PatternD} {B : Nat} {p : Int} (h0 : Below W.heap.size W w0) (hb : Below w0.heap.size w0 w1) (h : Drawn B (.agg #[.slice a d.stops.length c, .slice oa d.lines.length oc]) p lv d xs w1) (u : TypeId) :
    In10 W (w1.alloc (.cells #[.slice a d.stops.length c, .slice oa d.lines.length oc] u)) w1.heap.size (.slice a d.stops.length c) (.slice oa d.lines.length oc) (.agg #[.slice a d.stops.length c, .slice oa d.lines.length oc]) lv d xs := by
  have hbb := h0.trans (hb.mono h0.size)
  exact ⟨hbb.alloc hbb.size _, h.2.2.2.2.1.at.below rfl ((Below.refl _ _).alloc (Nat.le_refl _) _), (patsAt_own h.2.2.2.2.2).below rfl ((Below.refl _ _).alloc (Nat.le_refl _) _), by go_simp, by go_simp⟩
theorem code_below {W w : World} {v : Value} (h : CodeAt W v) (hb : Below W.heap.size W w) : CodeAt w v := by
  obtain ⟨l, hr⟩ := h; exact ⟨l, hr.below rfl hb⟩

def mvK (ys xs : List PatternD) (k : Nat) : List PatternD := ys.take k ++ xs.drop k
theorem mvK_len {ys xs : List PatternD} (h : ys.length = xs.length) (k : Nat) (hk : k ≤ xs.length) : (mvK ys xs k).length = xs.length := by simp [mvK]; omega
theorem mvK_set {ys xs : List PatternD} (h : ys.length = xs.length) {k : Nat} (hk : k < xs.length) : (mvK ys xs k).set k (ys[k]'(by omega)) = mvK ys xs (k + 1) := by
  refine List.ext_getElem (by rw [List.length_set, mvK_len h k (by omega), mvK_len h (k + 1) (by omega)]) (fun j h1 h2 => ?_)
  rw [List.getElem_set]
  have hj : j < xs.length := by rw [mvK_len h (k + 1) (by omega)] at h2; exact h2
  simp only [mvK, List.getElem_append, List.length_take, List.getElem_take, List.getElem_drop]
  by_cases e : k = j
  · subst e
    rw [if_pos rfl, dif_pos (by omega)]
  · rw [if_neg e]
    by_cases h3 : j < k
    · rw [dif_pos (by omega), dif_pos (by omega)]
    · rw [dif_neg (by omega), dif_neg (by omega)]
      congr 1; omega

set_option maxRecDepth 100000 in
set_option maxHeartbeats 16000000 in
theorem walk (v0 : Value) (W : World) (S0 : CodeAt W v0) (hL : laidMetH Try.prog Rows.fnOffsetsRow.laid W) (hsh : W.ShapedOpen Try.prog) :
    Calls Try.prog 4 #[v0] W fun e w' => e = .returned (.bool true) ∧ Below W.heap.size W w' := by
  clear hL hsh
  have HD := Lib.hid (drawBest_any v0 W S0)
  have HDT := Lib.hid (fun w (h : Below W.heap.size W w) => drawTransfer_any v0 w (code_below S0 h))
  have HDM := Lib.hid (fun w (h : Below W.heap.size W w) => drawMeeting_any v0 w (code_below S0 h))
  have HDE := Lib.hid (fun w (h : Below W.heap.size W w) => drawEven_any v0 w (code_below S0 h))
  obtain ⟨l, a, c, rfl, h1, h2, h3⟩ := S0
  clear h3
  obtain ⟨b1, b2⟩ := rBig_any a _ c W (show (l.map byteV).length ≤ maxLen by unfold maxLen at *; omega)
  generalize (l.map byteV).length = n at *
  by_cases hbig : 65536 < n
  · have HB := Lib.hid (b1 hbig)
    clear b1 b2
    go_enter Try.func4, Try.ntmps4
    go_wp2_with (go_at_call 15; refine HB.out.mono ?_; rintro e w' ⟨rfl, rfl⟩)
    go_ret
    exact ⟨rfl, Below.refl _ _⟩
  have HB := Lib.hid (b2 (by omega))
  clear b1 b2
  go_enter Try.func4, Try.ntmps4
  go_wp2_with fail
  go_at_call 15
  refine HB.out.mono ?_
  rintro e w' ⟨rfl, rfl⟩
  clear HB
  go_wp2_with fail
  go_at_call 28
  refine HD.out.mono ?_
  rintro e w1 ⟨⟨d, sa, sc, oa, oc, p, xs, la, lc, r, rfl, hdr, r0, r1⟩, hb⟩
  clear HD hbig h1 h2 l
  obtain ⟨hf, hs⟩ := any_fits hdr.1.1 hdr.1.2.1 hdr.1.2.2
  obtain ⟨p0, p1⟩ := hdr.2.1
  have hIn2 := In10.of (Below.refl _ _) hb hdr 27
  clear hdr hb
  have HFct := Lib.hid (fun h => bo_facts (n := d) (p := p) (xs := xs) (stop := r) h)
  have HIB := Lib.hid (fun w (h : NetAt w (.agg #[.slice sa d.stops.length sc, .slice oa d.lines.length oc]) d) (g : PatternsAt w (.slice la xs.length lc) xs) => implBest_any _ _ d p xs r w h g hf hs)
  have HSB := Lib.hid (fun w (h : NetAt w (.agg #[.slice sa d.stops.length sc, .slice oa d.lines.length oc]) d) (g : PatternsAt w (.slice la xs.length lc) xs) => specBest_any _ _ d p xs r w h g hf hs)
  have HIL := Lib.hid (fun w v ys (h : NetAt w (.agg #[.slice sa d.stops.length sc, .slice oa d.lines.length oc]) d) (g : PatternsAt w v ys) => implLargestGap_any _ v d p ys r w h g hf hs)
  clear hf hs
  generalize boF d p xs r = bo at *
  generalize boB d p xs r = bb at *
  obtain ⟨ol, gp⟩ := bo
  simp only at HFct HIB HSB
  go_wp2_with fail
  obtain ⟨w2, hw2⟩ : ∃ w2 : World, w2 = w1.alloc (.cells #[.slice sa d.stops.length sc, .slice oa d.lines.length oc] 27) := ⟨_, rfl⟩
  rw [← hw2] at hIn2 ⊢
  generalize w1.heap.size = nb at *
  clear hw2
  have HIn := Lib.hid hIn2
  obtain ⟨-, -, -, c0, c1⟩ := hIn2
  go_at_call 29
  refine (HIB.out w2 HIn.out.2.1 HIn.out.2.2.1).mono ?_
  rintro e w3 ⟨⟨zg, rfl, ho⟩, hb⟩
  have HG := Lib.hid (rowAt_own ho)
  obtain ⟨zga, zgc, rfl, -, -, -⟩ := ints_open (rowAt_own ho)
  clear ho
  have HIn := Lib.hid (HIn.out.below hb)
  clear hb c0 c1
  obtain ⟨-, -, -, c0, c1⟩ := HIn.out
  clear HIB
  go_wp2_with fail
  go_at_call 30
  refine (HSB.out w3 HIn.out.2.1 HIn.out.2.2.1).mono ?_
  rintro e w4 ⟨⟨zw, rfl, ho⟩, hb⟩
  have HW := Lib.hid (rowAt_own ho)
  obtain ⟨zwa, zwc, rfl, -, -, -⟩ := ints_open (rowAt_own ho)
  clear ho
  have HG := Lib.hid (HG.out.below rfl hb)
  have HIn := Lib.hid (HIn.out.below hb)
  clear hb c0 c1
  obtain ⟨-, -, -, c0, c1⟩ := HIn.out
  clear HSB
  go_wp2_with fail
  go_at_call 19
  refine (rInts_any _ _ ol w4 HG.out HW.out).mono ?_
  rintro e w5 ⟨rfl, hb⟩
  have HG := Lib.hid (HG.out.below rfl hb)
  have HIn := Lib.hid (HIn.out.below hb)
  clear hb c0 c1
  obtain ⟨-, -, -, c0, c1⟩ := HIn.out
  clear HW
  cases bb
  · clear HFct HIL HG
    go_wp2_with fail
    go_at_call 31
    refine (HDT.out w5 HIn.out.1).mono ?_
    rintro e w6 ⟨⟨d2, sa2, sc2, oa2, oc2, p2, xs2, la2, lc2, x2, y2, s2, z2, rfl, hdr, ⟨s20, s21⟩, ⟨z20, z21⟩⟩, hb⟩
    obtain ⟨hf, hs⟩ := any_fits hdr.1.1 hdr.1.2.1 hdr.1.2.2
    obtain ⟨p20, p21⟩ := hdr.2.1
    have hx4 := hdr.2.2.1
    have hIn2 := In10.of HIn.out.1 hb hdr 27
    clear hdr hb HIn c0 c1 HDT
    have hxs : PatternsSmall xs2 := by unfold PatternsSmall; omega
    have hst : (Lit.int .i64 s2).wf = true := wfB (by omega) (by omega)
    have HTF := Lib.hid (fun h => tw_facts (n := d2) (p := p2) (xs := xs2) (a := x2) (b := y2) (stop := s2) (walk := z2) h)
    have HIT := Lib.hid (fun w (h : NetAt w (.agg #[.slice sa2 d2.stops.length sc2, .slice oa2 d2.lines.length oc2]) d2) (g : PatternsAt w (.slice la2 xs2.length lc2) xs2) => implTransfer_any _ _ d2 p2 xs2 x2 y2 s2 z2 w h g hf hs hxs hst)
    have HST := Lib.hid (fun w (h : NetAt w (.agg #[.slice sa2 d2.stops.length sc2, .slice oa2 d2.lines.length oc2]) d2) (g : PatternsAt w (.slice la2 xs2.length lc2) xs2) => specTransfer_any _ _ d2 p2 xs2 x2 y2 s2 z2 w h g hf hs hxs hst)
    clear hf hs hxs hst
    generalize twF d2 p2 xs2 x2 y2 s2 z2 = tf at *
    generalize twB d2 p2 xs2 x2 y2 s2 z2 = tb at *
    go_wp2_with fail
    obtain ⟨w7, hwn⟩ : ∃ wn : World, wn = w6.alloc (.cells #[.slice sa2 d2.stops.length sc2, .slice oa2 d2.lines.length oc2] 27) := ⟨_, rfl⟩
    rw [← hwn] at hIn2 ⊢
    generalize w6.heap.size = nb2 at *
    clear hwn
    have HIn := Lib.hid hIn2
    obtain ⟨-, -, -, c0, c1⟩ := hIn2
    go_at_call 32
    refine (HIT.out w7 HIn.out.2.1 HIn.out.2.2.1).mono ?_
    rintro e w8 ⟨rfl, hb⟩
    have HIn := Lib.hid (HIn.out.below hb)
    clear hb c0 c1
    obtain ⟨-, -, -, c0, c1⟩ := HIn.out
    clear HIT
    go_wp2_with fail
    go_at_call 33
    refine (HST.out w8 HIn.out.2.1 HIn.out.2.2.1).mono ?_
    rintro e w9 ⟨rfl, hb⟩
    have HIn := Lib.hid (HIn.out.below hb)
    clear hb c0 c1
    obtain ⟨-, -, -, c0, c1⟩ := HIn.out
    clear HST c0 c1
    cases tb
    · clear HTF
      go_wp2_with fail
      go_at_call 34
      refine (HDM.out w9 HIn.out.1).mono ?_
      rintro e w10 ⟨⟨d3, sa3, sc3, oa3, oc3, p3, xs3, la3, lc3, x3, y3, rfl, hdr⟩, hb⟩
      obtain ⟨hf, hs⟩ := any_fits hdr.1.1 hdr.1.2.1 hdr.1.2.2
      obtain ⟨p30, p31⟩ := hdr.2.1
      have hx4 := hdr.2.2.1
      have hIn3 := In10.of HIn.out.1 hb hdr 27
      clear hdr hb HIn HDM
      have hxs : PatternsSmall xs3 := by unfold PatternsSmall; omega
      have HIM := Lib.hid (fun w (h : NetAt w (.agg #[.slice sa3 d3.stops.length sc3, .slice oa3 d3.lines.length oc3]) d3) (g : PatternsAt w (.slice la3 xs3.length lc3) xs3) => implMeeting_any _ _ d3 p3 xs3 x3 y3 w h g hf hs hxs)
      have HSM := Lib.hid (fun w (h : NetAt w (.agg #[.slice sa3 d3.stops.length sc3, .slice oa3 d3.lines.length oc3]) d3) (g : PatternsAt w (.slice la3 xs3.length lc3) xs3) => specMeeting_any _ _ d3 p3 xs3 x3 y3 w h g hf hs hxs)
      clear hf hs hxs
      generalize mtF d3 p3 xs3 x3 y3 = mf at *
      generalize mtB d3 p3 xs3 x3 y3 = mb at *
      go_wp2_with fail
      obtain ⟨w11, hwn⟩ : ∃ wn : World, wn = w10.alloc (.cells #[.slice sa3 d3.stops.length sc3, .slice oa3 d3.lines.length oc3] 27) := ⟨_, rfl⟩
      rw [← hwn] at hIn3 ⊢
      generalize w10.heap.size = nb3 at *
      clear hwn
      have HIn := Lib.hid hIn3
      obtain ⟨-, -, -, c0, c1⟩ := hIn3
      go_at_call 35
      refine (HIM.out w11 HIn.out.2.1 HIn.out.2.2.1).mono ?_
      rintro e w12 ⟨⟨zm, rfl, ho⟩, hb⟩
      have HM1 := Lib.hid (rowAt_own ho)
      obtain ⟨zma, zmc, rfl, -, -, -⟩ := ints_open (rowAt_own ho)
      clear ho
      have HIn := Lib.hid (HIn.out.below hb)
      clear hb c0 c1
      obtain ⟨-, -, -, c0, c1⟩ := HIn.out
      clear HIM
      go_wp2_with fail
      go_at_call 36
      refine (HSM.out w12 HIn.out.2.1 HIn.out.2.2.1).mono ?_
      rintro e w13 ⟨⟨zn, rfl, ho⟩, hb⟩
      have HM2 := Lib.hid (rowAt_own ho)
      obtain ⟨zna, znc, rfl, -, -, -⟩ := ints_open (rowAt_own ho)
      clear ho
      have HM1 := Lib.hid (HM1.out.below rfl hb)
      have HIn := Lib.hid (HIn.out.below hb)
      clear hb c0 c1
      obtain ⟨-, -, -, c0, c1⟩ := HIn.out
      clear HSM c0 c1
      go_wp2_with fail
      go_at_call 37
      refine (HDE.out w13 HIn.out.1).mono ?_
      rintro e w14 ⟨⟨x4, y4, rfl⟩, hb⟩
      have HM1 := Lib.hid (HM1.out.below rfl hb)
      have HM2 := Lib.hid (HM2.out.below rfl hb)
      have HB4 := Lib.hid (HIn.out.1.trans (hb.mono HIn.out.1.size))
      clear hb HIn HDE
      have HIE := Lib.hid (implEvenTimes_any x4 y4)
      have HSE := Lib.hid (specEvenTimes_any x4 y4)
      generalize evF x4 y4 = ef at *
      generalize evB x4 y4 = eb at *
      go_wp2_with fail
      go_at_call 38
      refine (HIE.out w14).mono ?_
      rintro e w15 ⟨⟨zi, rfl, ho⟩, hb⟩
      have HE1 := Lib.hid (rowAt_own ho)
      obtain ⟨zia, zic, rfl, -, -, -⟩ := ints_open (rowAt_own ho)
      clear ho
      have HM1 := Lib.hid (HM1.out.below rfl hb)
      have HM2 := Lib.hid (HM2.out.below rfl hb)
      have HB4 := Lib.hid (HB4.out.trans (hb.mono HB4.out.size))
      clear hb
      clear HIE
      go_wp2_with fail
      go_at_call 39
      refine (HSE.out w15).mono ?_
      rintro e w16 ⟨⟨zj, rfl, ho⟩, hb⟩
      have HE2 := Lib.hid (rowAt_own ho)
      obtain ⟨zja, zjc, rfl, -, -, -⟩ := ints_open (rowAt_own ho)
      clear ho
      have HM1 := Lib.hid (HM1.out.below rfl hb)
      have HM2 := Lib.hid (HM2.out.below rfl hb)
      have HE1 := Lib.hid (HE1.out.below rfl hb)
      have HB4 := Lib.hid (HB4.out.trans (hb.mono HB4.out.size))
      clear hb
      clear HSE
      go_wp2_with fail
      go_at_call 19
      refine (rInts_any _ _ mf w16 HM1.out HM2.out).mono ?_
      rintro e w17 ⟨rfl, hb⟩
      have HE1 := Lib.hid (HE1.out.below rfl hb)
      have HE2 := Lib.hid (HE2.out.below rfl hb)
      have HB4 := Lib.hid (HB4.out.trans (hb.mono HB4.out.size))
      clear hb
      clear HM1 HM2
      go_wp2_with fail
      go_at_call 19
      refine (rInts_any _ _ ef w17 HE1.out HE2.out).mono ?_
      rintro e w18 ⟨rfl, hb⟩
      have HB4 := Lib.hid (HB4.out.trans (hb.mono HB4.out.size))
      clear hb
      clear HE1 HE2
      go_wp2_with fail
      go_ret
      exact ⟨rfl, HB4.out⟩
    · obtain ⟨⟨hp1, hp2⟩, ⟨hz1, hz2⟩, ht1, ht2⟩ := HTF.out rfl
      clear HTF
      have hd1 : decide (tf < z2) = false := decide_eq_false (by omega)
      have hwz : IntKind.i64.wrap (z2 + p2) = z2 + p2 := IntWalk.i64_in _ (by omega)
      have hd2 : decide (z2 + p2 ≤ tf) = false := decide_eq_false (by omega)
      go_wp2_with fail
      go_at_call 34
      refine (HDM.out w9 HIn.out.1).mono ?_
      rintro e w10 ⟨⟨d3, sa3, sc3, oa3, oc3, p3, xs3, la3, lc3, x3, y3, rfl, hdr⟩, hb⟩
      obtain ⟨hf, hs⟩ := any_fits hdr.1.1 hdr.1.2.1 hdr.1.2.2
      obtain ⟨p30, p31⟩ := hdr.2.1
      have hx4 := hdr.2.2.1
      have hIn3 := In10.of HIn.out.1 hb hdr 27
      clear hdr hb HIn HDM
      have hxs : PatternsSmall xs3 := by unfold PatternsSmall; omega
      have HIM := Lib.hid (fun w (h : NetAt w (.agg #[.slice sa3 d3.stops.length sc3, .slice oa3 d3.lines.length oc3]) d3) (g : PatternsAt w (.slice la3 xs3.length lc3) xs3) => implMeeting_any _ _ d3 p3 xs3 x3 y3 w h g hf hs hxs)
      have HSM := Lib.hid (fun w (h : NetAt w (.agg #[.slice sa3 d3.stops.length sc3, .slice oa3 d3.lines.length oc3]) d3) (g : PatternsAt w (.slice la3 xs3.length lc3) xs3) => specMeeting_any _ _ d3 p3 xs3 x3 y3 w h g hf hs hxs)
      clear hf hs hxs
      generalize mtF d3 p3 xs3 x3 y3 = mf at *
      generalize mtB d3 p3 xs3 x3 y3 = mb at *
      go_wp2_with fail
      obtain ⟨w11, hwn⟩ : ∃ wn : World, wn = w10.alloc (.cells #[.slice sa3 d3.stops.length sc3, .slice oa3 d3.lines.length oc3] 27) := ⟨_, rfl⟩
      rw [← hwn] at hIn3 ⊢
      generalize w10.heap.size = nb3 at *
      clear hwn
      have HIn := Lib.hid hIn3
      obtain ⟨-, -, -, c0, c1⟩ := hIn3
      go_at_call 35
      refine (HIM.out w11 HIn.out.2.1 HIn.out.2.2.1).mono ?_
      rintro e w12 ⟨⟨zm, rfl, ho⟩, hb⟩
      have HM1 := Lib.hid (rowAt_own ho)
      obtain ⟨zma, zmc, rfl, -, -, -⟩ := ints_open (rowAt_own ho)
      clear ho
      have HIn := Lib.hid (HIn.out.below hb)
      clear hb c0 c1
      obtain ⟨-, -, -, c0, c1⟩ := HIn.out
      clear HIM
      go_wp2_with fail
      go_at_call 36
      refine (HSM.out w12 HIn.out.2.1 HIn.out.2.2.1).mono ?_
      rintro e w13 ⟨⟨zn, rfl, ho⟩, hb⟩
      have HM2 := Lib.hid (rowAt_own ho)
      obtain ⟨zna, znc, rfl, -, -, -⟩ := ints_open (rowAt_own ho)
      clear ho
      have HM1 := Lib.hid (HM1.out.below rfl hb)
      have HIn := Lib.hid (HIn.out.below hb)
      clear hb c0 c1
      obtain ⟨-, -, -, c0, c1⟩ := HIn.out
      clear HSM c0 c1
      go_wp2_with fail
      go_at_call 37
      refine (HDE.out w13 HIn.out.1).mono ?_
      rintro e w14 ⟨⟨x4, y4, rfl⟩, hb⟩
      have HM1 := Lib.hid (HM1.out.below rfl hb)
      have HM2 := Lib.hid (HM2.out.below rfl hb)
      have HB4 := Lib.hid (HIn.out.1.trans (hb.mono HIn.out.1.size))
      clear hb HIn HDE
      have HIE := Lib.hid (implEvenTimes_any x4 y4)
      have HSE := Lib.hid (specEvenTimes_any x4 y4)
      generalize evF x4 y4 = ef at *
      generalize evB x4 y4 = eb at *
      go_wp2_with fail
      go_at_call 38
      refine (HIE.out w14).mono ?_
      rintro e w15 ⟨⟨zi, rfl, ho⟩, hb⟩
      have HE1 := Lib.hid (rowAt_own ho)
      obtain ⟨zia, zic, rfl, -, -, -⟩ := ints_open (rowAt_own ho)
      clear ho
      have HM1 := Lib.hid (HM1.out.below rfl hb)
      have HM2 := Lib.hid (HM2.out.below rfl hb)
      have HB4 := Lib.hid (HB4.out.trans (hb.mono HB4.out.size))
      clear hb
      clear HIE
      go_wp2_with fail
      go_at_call 39
      refine (HSE.out w15).mono ?_
      rintro e w16 ⟨⟨zj, rfl, ho⟩, hb⟩
      have HE2 := Lib.hid (rowAt_own ho)
      obtain ⟨zja, zjc, rfl, -, -, -⟩ := ints_open (rowAt_own ho)
      clear ho
      have HM1 := Lib.hid (HM1.out.below rfl hb)
      have HM2 := Lib.hid (HM2.out.below rfl hb)
      have HE1 := Lib.hid (HE1.out.below rfl hb)
      have HB4 := Lib.hid (HB4.out.trans (hb.mono HB4.out.size))
      clear hb
      clear HSE
      go_wp2_with fail
      go_at_call 19
      refine (rInts_any _ _ mf w16 HM1.out HM2.out).mono ?_
      rintro e w17 ⟨rfl, hb⟩
      have HE1 := Lib.hid (HE1.out.below rfl hb)
      have HE2 := Lib.hid (HE2.out.below rfl hb)
      have HB4 := Lib.hid (HB4.out.trans (hb.mono HB4.out.size))
      clear hb
      clear HM1 HM2
      go_wp2_with fail
      go_at_call 19
      refine (rInts_any _ _ ef w17 HE1.out HE2.out).mono ?_
      rintro e w18 ⟨rfl, hb⟩
      have HB4 := Lib.hid (HB4.out.trans (hb.mono HB4.out.size))
      clear hb
      clear HE1 HE2
      go_wp2_with fail
      go_ret
      exact ⟨rfl, HB4.out⟩
  · obtain ⟨hol, ⟨hx1, hx3⟩, hsv, hle, hof, ys, hyl, hyo, hsy, hgp⟩ := HFct.out rfl
    clear HFct
    obtain ⟨g, go, hla, hgb, y0, y1⟩ := pat_at HIn.out.2.2.1 0 (by omega)
    subst hla
    obtain ⟨_, _, he, hlc, hlm, -⟩ := pats_open HIn.out.2.2.1
    simp at he
    obtain ⟨rfl, rfl⟩ := he
    have hof0 := hof (by omega) (by omega)
    have HOf := Lib.hid hof0
    have HYo := Lib.hid hyo
    clear y0 y1 hgb hof hof0 hyo
    have HL1 := fun w v (h : NetAt w (.agg #[.slice sa d.stops.length sc, .slice oa d.lines.length oc]) d) (g : PatternsAt w v ys) => HIL.out w v ys h g
    have HL2 := fun w v (h : NetAt w (.agg #[.slice sa d.stops.length sc, .slice oa d.lines.length oc]) d) (g : PatternsAt w v xs) => HIL.out w v xs h g
    rw [hsy, hgp] at HL1
    rw [hsv] at HL2
    generalize (lgF d p ys r).2 = gq at *
    generalize (lgF d p xs r).2 = gs at *
    generalize (lgF d p xs r).1 = gt at *
    have HL1 := Lib.hid HL1
    have HL2 := Lib.hid HL2
    clear HIL hsy hgp hsv
    obtain ⟨iP, hiP, hzP0, hzP1, hzP2⟩ := info_parts infoPattern
    obtain ⟨wb, hwb⟩ : ∃ wb : World, wb = w5 := ⟨_, rfl⟩
    subst hwb
    have HCel := Lib.hid (pats_cells (g := g) (go := go) (d := lc) HIn.out.2.2.1)
    have HLit := Lib.hid (World.ownsRow_lit (base := wb.heap.size) (e := 45) (size := 2) wb #[] 0 (Nat.le_refl _) (by decide) (by simp))
    have HCw : Hid (∀ j u, (patC xs)[j]? = some u → (wb.alloc (.cells #[] 45)).cell? ((⟨g, go, none⟩ : Addr).add j) = some u) := fun j u hu => acell (HCel.out j u hu) _
    clear c0 c1 HCel
    go_wp2_with (at_builtin; refine wpList_append_own _ rfl _ _ 28 rfl wb.heap.size 45 iP (.agg #[.int .i64 0, .int .i64 0]) 2 16 Try.underlying28 hiP hzP0 hzP1 hzP2 rfl (by decide) _ 0 _ rfl HLit.out ⟨g, go, none⟩ xs.length lc (patC xs) rfl (patC_len xs) ?c1 ?c2 ?c3 ?c4 ?c5 ?_)
    case c1 => first | exact HCw.out | (intro j u hu; have hq := HCw.out j u hu; rw [addr_add] at hq; exact hq)
    case c2 => exact patC_cells xs
    case c3 => first | omega | (unfold maxLen; omega)
    try (case c4 => omega)
    try (case c5 => first | omega | (simp; omega) | simp)
    intro v1 wA hown1 hgr1 _
    have hb2 : Below wb.heap.size wb wA := ((Below.refl _ _).alloc (Nat.le_refl _) _).grown hgr1 (by simp) (fun g hg => by simp [Value.ownBlock] at hg; omega)
    have hT0 : wA.ownsRow wb.heap.size 45 2 v1 xs.length (patC xs) := by simpa using hown1
    obtain ⟨tg, tc, rfl, htc, htm, htl, htb, -⟩ := own_open hT0 (own_someE hT0 (by omega))
    have HT0 : Hid (wA.ownsRow wb.heap.size 45 2 (.slice (some ⟨tg, 0, none⟩) xs.length tc) xs.length (patC (mvK ys xs 0))) := by show World.ownsRow _ _ _ _ _ _ _; rw [show mvK ys xs 0 = xs by simp [mvK]]; exact hT0
    have HBA := Lib.hid hb2
    clear hown1 hgr1 hT0 HLit HCw hb2 hiP hzP0 hzP1 hzP2
    go_wp2_with fail
    go_loopw [14] (fun q0 wr => ∃ k : Nat, k ≤ xs.length ∧ q0 = .int .i64 (k : Int) ∧ Hid (wr.ownsRow wb.heap.size 45 2 (.slice (some ⟨tg, 0, none⟩) xs.length tc) xs.length (patC (mvK ys xs k))) ∧ Hid (Below wb.heap.size wb wr)) (fun q0 _ => xs.length - (RowKit.intOf q0).toNat)
    case atStart => exact ⟨0, Nat.zero_le _, rfl, HT0.out, HBA.out⟩
    case round =>
      clear HT0 HBA
      obtain ⟨k, hk, rfl, HT, HBr⟩ := hrel
      by_cases hlt : k < xs.length
      · obtain ⟨wi, hwi⟩ : ∃ wi : World, wi = wr := ⟨_, rfl⟩
        subst hwi
        have hml := mvK_len hyl k (by omega)
        obtain ⟨_, _, he, -, yq, -⟩ := pat_at HIn.out.2.2.1 k hlt
        simp at he
        obtain ⟨rfl, rfl⟩ := he
        have yq := bkeep HBr.out yq
        obtain ⟨_, _, he2, -, -, HX⟩ := ints_open HG.out
        simp at he2
        obtain ⟨rfl, rfl⟩ := he2
        obtain ⟨ob, oo, hza, -, oq⟩ := HX.out k (by omega)
        subst hza
        have oq := bkeep HBr.out oq
        have hyk := HYo.out k hlt (by omega) (by omega)
        have hset := mvK_set hyl hlt
        rw [hyk] at hset
        have HSet := Lib.hid hset
        generalize xs[k].line = xl at *
        generalize ol[k] = ov at *
        have hcT0 : wi.cell? ⟨tg, k * 2, none⟩ = some ((patC (mvK ys xs k))[k * 2]'(by rw [patC_len, hml]; omega)) := by
          have h := HT.out.cellAt (k * 2) (by omega)
          rw [h]; exact List.getElem?_eq_getElem _
        have hcT1 : wi.cell? ⟨tg, k * 2 + 1, none⟩ = some ((patC (mvK ys xs k))[k * 2 + 1]'(by rw [patC_len, hml]; omega)) := by
          have h := HT.out.cellAt (k * 2 + 1) (by omega)
          rw [h]; exact List.getElem?_eq_getElem _
        have hfT := fun o => HT.out.frozenAt o
        have hs1 := (HT.out.stored (k * 2) (.int .i64 xl)).1.stored (k * 2 + 1) (.int .i64 ov)
        have HTz : Hid ((((wi.setCell ⟨tg, k * 2, none⟩ (.int .i64 xl)).setCell ⟨tg, k * 2 + 1, none⟩ (.int .i64 ov))).drew.ownsRow wb.heap.size 45 2 (.slice (some ⟨tg, 0, none⟩) xs.length tc) xs.length (patC (mvK ys xs (k + 1)))) := by
          show World.ownsRow _ _ _ _ _ _ _
          have h := patC_set (mvK ys xs k) k ⟨xl, ov⟩ (by rw [hml]; exact hlt)
          rw [← HSet.out, ← h]; exact own_later hs1.1 (Below.refl _ _).drew
        have HBz : Hid (Below wb.heap.size wb ((wi.setCell ⟨tg, k * 2, none⟩ (.int .i64 xl)).setCell ⟨tg, k * 2 + 1, none⟩ (.int .i64 ov)).drew) := ((HBr.out.setCell (p := ⟨tg, k * 2, none⟩) htb _).setCell (p := ⟨tg, k * 2 + 1, none⟩) htb _).drew
        generalize (patC (mvK ys xs k))[k * 2]'_ = old1 at *
        generalize (patC (mvK ys xs k))[k * 2 + 1]'_ = old2 at *
        have hk1 : (k : Int) < (xs.length : Int) := by omega
        have hk2 : (k : Int) < (ol.length : Int) := by omega
        have hk3 : (0 : Int) ≤ (k : Int) := by omega
        clear hs1 HT hml HSet hset hyk HX
        go_wp2_with fail
        refine wp_region_until 13 (S := (fun w' => w'.cell? ⟨g, go + k * 2, none⟩ = some (.int .i64 xl) ∧ w'.cell? ⟨ob, oo + k, none⟩ = some (.int .i64 ov))) (by kernel_rfl) ?_ (fun hHeld => ?_)
        · exact ⟨yq, oq⟩
        refine wpAnyU_take (i := 0) (v := ?_) (by simp only [List.getElem?_toArray, List.getElem?_cons_zero]; rfl) (by kernel_rfl) (by kernel_rfl) (by kernel_rfl) (by kernel_rfl) (by kernel_rfl) (by exact fun _ _ _ h => h) (Or.inl ⟨by rfl, ?_⟩) (by assumption) ?_
        rotate_left
        · intro w' hSw; (try dsimp only at hSw); obtain ⟨e0, e1⟩ := hSw
          go_simp; try with_reducible rfl
        try simp only [Act.put, List.setIfInBounds_toArray, List.set_cons_zero, List.set_cons_succ]
        refine wpAnyU_take (i := 1) (v := ?_) (by simp only [List.getElem?_toArray, List.getElem?_cons_succ, List.getElem?_cons_zero]; rfl) (by kernel_rfl) (by kernel_rfl) (by kernel_rfl) (by kernel_rfl) (by kernel_rfl) (by exact fun _ _ _ h => h) (Or.inl ⟨by rfl, ?_⟩) (by assumption) ?_
        rotate_left
        · intro w' hSw; (try dsimp only at hSw); obtain ⟨e0, e1⟩ := hSw
          go_simp; try with_reducible rfl
        try simp only [Act.put, List.setIfInBounds_toArray, List.set_cons_zero, List.set_cons_succ]
        refine wpAnyU_take (i := 2) (v := ?_) (by simp only [List.getElem?_toArray, List.getElem?_cons_succ, List.getElem?_cons_zero]; rfl) (by kernel_rfl) (by kernel_rfl) (by kernel_rfl) (by kernel_rfl) (by kernel_rfl) (by exact fun _ _ _ h => h) (Or.inl ⟨by rfl, ?_⟩) (by assumption) ?_
        rotate_left
        · intro w' hSw; (try dsimp only at hSw); obtain ⟨e0, e1⟩ := hSw
          go_simp; try with_reducible rfl
        try simp only [Act.put, List.setIfInBounds_toArray, List.set_cons_zero, List.set_cons_succ]
        refine wpAnyU_take (i := 3) (v := ?_) (by simp only [List.getElem?_toArray, List.getElem?_cons_succ, List.getElem?_cons_zero]; rfl) (by kernel_rfl) (by kernel_rfl) (by kernel_rfl) (by kernel_rfl) (by kernel_rfl) (by exact fun _ _ _ h => h) (Or.inl ⟨by rfl, ?_⟩) (by assumption) ?_
        rotate_left
        · intro w' hSw; (try dsimp only at hSw); obtain ⟨e0, e1⟩ := hSw
          go_simp; try with_reducible rfl
        try simp only [Act.put, List.setIfInBounds_toArray, List.set_cons_zero, List.set_cons_succ]
        refine wpAnyU_take (i := 4) (v := ?_) (by simp only [List.getElem?_toArray, List.getElem?_cons_succ, List.getElem?_cons_zero]; rfl) (by kernel_rfl) (by kernel_rfl) (by kernel_rfl) (by kernel_rfl) (by kernel_rfl) (by exact fun _ _ _ h => h) (Or.inl ⟨by rfl, ?_⟩) (by assumption) ?_
        rotate_left
        · intro w' hSw; (try dsimp only at hSw); obtain ⟨e0, e1⟩ := hSw
          go_simp; try with_reducible rfl
        try simp only [Act.put, List.setIfInBounds_toArray, List.set_cons_zero, List.set_cons_succ]
        refine wpAnyU_take (i := 5) (v := ?_) (by simp only [List.getElem?_toArray, List.getElem?_cons_succ, List.getElem?_cons_zero]; rfl) (by kernel_rfl) (by kernel_rfl) (by kernel_rfl) (by kernel_rfl) (by kernel_rfl) (by exact fun _ _ _ h => h) (Or.inl ⟨by rfl, ?_⟩) (by assumption) ?_
        rotate_left
        · intro w' hSw; (try dsimp only at hSw); obtain ⟨e0, e1⟩ := hSw
          go_simp; try with_reducible rfl
        try simp only [Act.put, List.setIfInBounds_toArray, List.set_cons_zero, List.set_cons_succ]
        refine wpAnyU_take (i := 6) (v := ?_) (by simp only [List.getElem?_toArray, List.getElem?_cons_succ, List.getElem?_cons_zero]; rfl) (by kernel_rfl) (by kernel_rfl) (by kernel_rfl) (by kernel_rfl) (by kernel_rfl) (by exact fun _ _ _ h => h) (Or.inl ⟨by rfl, ?_⟩) (by assumption) ?_
        rotate_left
        · intro w' hSw; (try dsimp only at hSw); obtain ⟨e0, e1⟩ := hSw
          go_simp; try with_reducible rfl
        try simp only [Act.put, List.setIfInBounds_toArray, List.set_cons_zero, List.set_cons_succ]
        refine wpAnyU_take (i := 7) (v := ?_) (by simp only [List.getElem?_toArray, List.getElem?_cons_succ, List.getElem?_cons_zero]; rfl) (by kernel_rfl) (by kernel_rfl) (by kernel_rfl) (by kernel_rfl) (by kernel_rfl) (by exact fun _ _ _ h => h) (Or.inl ⟨by rfl, ?_⟩) (by assumption) ?_
        rotate_left
        · intro w' hSw; (try dsimp only at hSw); obtain ⟨e0, e1⟩ := hSw
          go_simp; try with_reducible rfl
        try simp only [Act.put, List.setIfInBounds_toArray, List.set_cons_zero, List.set_cons_succ]
        refine wpAnyU_take (i := 8) (v := ?_) (by simp only [List.getElem?_toArray, List.getElem?_cons_succ, List.getElem?_cons_zero]; rfl) (by kernel_rfl) (by kernel_rfl) (by kernel_rfl) (by kernel_rfl) (by kernel_rfl) (by exact fun _ _ _ h => h) (Or.inl ⟨by rfl, ?_⟩) (by assumption) ?_
        rotate_left
        · intro w' hSw; (try dsimp only at hSw); obtain ⟨e0, e1⟩ := hSw
          go_simp; try with_reducible rfl
        try simp only [Act.put, List.setIfInBounds_toArray, List.set_cons_zero, List.set_cons_succ]
        refine wpAnyU_take (i := 9) (v := ?_) (by simp only [List.getElem?_toArray, List.getElem?_cons_succ, List.getElem?_cons_zero]; rfl) (by kernel_rfl) (by kernel_rfl) (by kernel_rfl) (by kernel_rfl) (by kernel_rfl) (by exact fun _ _ _ h => h) (Or.inl ⟨by rfl, ?_⟩) (by assumption) ?_
        rotate_left
        · intro w' hSw; (try dsimp only at hSw); obtain ⟨e0, e1⟩ := hSw
          go_simp; try with_reducible rfl
        try simp only [Act.put, List.setIfInBounds_toArray, List.set_cons_zero, List.set_cons_succ]
        refine wpAnyU_take (i := 10) (v := ?_) (by simp only [List.getElem?_toArray, List.getElem?_cons_succ, List.getElem?_cons_zero]; rfl) (by kernel_rfl) (by kernel_rfl) (by kernel_rfl) (by kernel_rfl) (by kernel_rfl) (by exact fun _ _ _ h => h) (Or.inl ⟨by rfl, ?_⟩) (by assumption) ?_
        rotate_left
        · intro w' hSw; (try dsimp only at hSw); obtain ⟨e0, e1⟩ := hSw
          go_simp; try with_reducible rfl
        try simp only [Act.put, List.setIfInBounds_toArray, List.set_cons_zero, List.set_cons_succ]
        refine wpAnyU_take (i := 11) (v := ?_) (by simp only [List.getElem?_toArray, List.getElem?_cons_succ, List.getElem?_cons_zero]; rfl) (by kernel_rfl) (by kernel_rfl) (by kernel_rfl) (by kernel_rfl) (by kernel_rfl) (by exact fun _ _ _ h => h) (Or.inl ⟨by rfl, ?_⟩) (by assumption) ?_
        rotate_left
        · intro w' hSw; (try dsimp only at hSw); obtain ⟨e0, e1⟩ := hSw
          go_simp; try with_reducible rfl
        try simp only [Act.put, List.setIfInBounds_toArray, List.set_cons_zero, List.set_cons_succ]
        refine wpAnyU_take (i := 12) (v := ?_) (by simp only [List.getElem?_toArray, List.getElem?_cons_succ, List.getElem?_cons_zero]; rfl) (by kernel_rfl) (by kernel_rfl) (by kernel_rfl) (by kernel_rfl) (by kernel_rfl) (by exact fun _ _ _ h => h) (Or.inl ⟨by rfl, ?_⟩) (by assumption) ?_
        rotate_left
        · intro w' hSw; (try dsimp only at hSw); obtain ⟨e0, e1⟩ := hSw
          go_simp; try with_reducible rfl
        try simp only [Act.put, List.setIfInBounds_toArray, List.set_cons_zero, List.set_cons_succ]
        refine wpAnyU_ready (rs := [13]) (by kernel_rfl) (by simp) ?_
        refine AllReadyU.last (by simp only [List.getElem?_toArray, List.getElem?_cons_succ, List.getElem?_cons_zero]; rfl) (by kernel_rfl) (fun K hK => ?_)
        go_simp
        refine hK.out _ _ ?_
        clear hK K
        try simp only [Act.put, List.setIfInBounds_toArray, List.set_cons_zero, List.set_cons_succ]
        refine wpAnyU_done (by kernel_rfl) ?_ _
        clear hHeld
        go_wp2_with fail
        go_roundw
        case rel => exact ⟨k + 1, by omega, by go_num, HTz.out, HBz.out⟩
        case measure => simp [RowKit.intOf] <;> omega
      · have hkl : k = xs.length := by omega
        subst hkl
        obtain ⟨w9, hw9⟩ : ∃ w9 : World, w9 = wr := ⟨_, rfl⟩
        subst hw9
        have hmv : mvK ys xs xs.length = ys := by simp [mvK, hyl.symm, List.take_length]
        have hT := HT.out
        rw [hmv] at hT
        have HPy : Hid (PatternsAt w9 (.slice (some ⟨tg, 0, none⟩) xs.length tc) ys) := by
          show PatternsAt _ _ _
          rw [← hyl] at hT ⊢; exact patsAt_own hT
        have HIn := Lib.hid (HIn.out.below HBr.out)
        have HG := Lib.hid (HG.out.below rfl HBr.out)
        obtain ⟨-, -, -, c0, c1⟩ := HIn.out
        clear hT hmv HT HBr htc htm htl htb HYo
        go_wp2_with fail
        go_at_call 22
        refine (HL1.out w9 _ HIn.out.2.1 HPy.out).mono ?_
        rintro e w10 ⟨rfl, hb⟩
        have HG := Lib.hid (HG.out.below rfl hb)
        have HIn := Lib.hid (HIn.out.below hb)
        clear hb c0 c1
        obtain ⟨-, -, -, c0, c1⟩ := HIn.out
        clear HL1 HPy
        go_wp2_with fail
        go_at_call 22
        refine (HL2.out w10 _ HIn.out.2.1 HIn.out.2.2.1).mono ?_
        rintro e w11 ⟨rfl, hb⟩
        have HG := Lib.hid (HG.out.below rfl hb)
        have HIn := Lib.hid (HIn.out.below hb)
        clear hb c0 c1
        obtain ⟨-, -, -, c0, c1⟩ := HIn.out
        clear HL2
        obtain ⟨_, _, he, -, -, yq⟩ := pat_at HIn.out.2.2.1 0 (by omega)
        simp at he
        obtain ⟨rfl, rfl⟩ := he
        obtain ⟨_, _, he2, -, -, HX⟩ := ints_open HG.out
        simp at he2
        obtain ⟨rfl, rfl⟩ := he2
        obtain ⟨ob, oo, hza, -, oq⟩ := HX.out 0 (by omega)
        subst hza
        rw [HOf.out] at oq
        rw [Nat.zero_mul, Nat.add_zero] at yq
        rw [Nat.add_zero] at oq
        clear HOf HX
        generalize xs[0].offs = x0 at *
        have hdg : decide (gt < gp) = false := decide_eq_false (by omega)
        have ho1 : (0 : Int) < (ol.length : Int) := by omega
        have hx1' : (0 : Int) < (xs.length : Int) := by omega
        clear c0 c1
        go_wp2_with (go_quiet (fail))
        clear yq oq HG
        have HInD := Lib.hid (fun m => (HIn.out.below (below_drewN (Below.refl w11.heap.size w11) m)).1)
        go_at_call 31
        refine (HDT.out _ (HInD.out _)).mono ?_
        rintro e w12 ⟨⟨d2, sa2, sc2, oa2, oc2, p2, xs2, la2, lc2, x2, y2, s2, z2, rfl, hdr, ⟨s20, s21⟩, ⟨z20, z21⟩⟩, hb⟩
        obtain ⟨hf, hs⟩ := any_fits hdr.1.1 hdr.1.2.1 hdr.1.2.2
        obtain ⟨p20, p21⟩ := hdr.2.1
        have hx4 := hdr.2.2.1
        have hIn2 := In10.of (HInD.out _) hb hdr 27
        clear hdr hb HIn HInD HDT
        have hxs : PatternsSmall xs2 := by unfold PatternsSmall; omega
        have hst : (Lit.int .i64 s2).wf = true := wfB (by omega) (by omega)
        have HTF := Lib.hid (fun h => tw_facts (n := d2) (p := p2) (xs := xs2) (a := x2) (b := y2) (stop := s2) (walk := z2) h)
        have HIT := Lib.hid (fun w (h : NetAt w (.agg #[.slice sa2 d2.stops.length sc2, .slice oa2 d2.lines.length oc2]) d2) (g : PatternsAt w (.slice la2 xs2.length lc2) xs2) => implTransfer_any _ _ d2 p2 xs2 x2 y2 s2 z2 w h g hf hs hxs hst)
        have HST := Lib.hid (fun w (h : NetAt w (.agg #[.slice sa2 d2.stops.length sc2, .slice oa2 d2.lines.length oc2]) d2) (g : PatternsAt w (.slice la2 xs2.length lc2) xs2) => specTransfer_any _ _ d2 p2 xs2 x2 y2 s2 z2 w h g hf hs hxs hst)
        clear hf hs hxs hst
        generalize twF d2 p2 xs2 x2 y2 s2 z2 = tf at *
        generalize twB d2 p2 xs2 x2 y2 s2 z2 = tb at *
        go_wp2_with fail
        obtain ⟨w13, hwn⟩ : ∃ wn : World, wn = w12.alloc (.cells #[.slice sa2 d2.stops.length sc2, .slice oa2 d2.lines.length oc2] 27) := ⟨_, rfl⟩
        rw [← hwn] at hIn2 ⊢
        generalize w12.heap.size = nb2 at *
        clear hwn
        have HIn := Lib.hid hIn2
        obtain ⟨-, -, -, c0, c1⟩ := hIn2
        go_at_call 32
        refine (HIT.out w13 HIn.out.2.1 HIn.out.2.2.1).mono ?_
        rintro e w14 ⟨rfl, hb⟩
        have HIn := Lib.hid (HIn.out.below hb)
        clear hb c0 c1
        obtain ⟨-, -, -, c0, c1⟩ := HIn.out
        clear HIT
        go_wp2_with fail
        go_at_call 33
        refine (HST.out w14 HIn.out.2.1 HIn.out.2.2.1).mono ?_
        rintro e w15 ⟨rfl, hb⟩
        have HIn := Lib.hid (HIn.out.below hb)
        clear hb c0 c1
        obtain ⟨-, -, -, c0, c1⟩ := HIn.out
        clear HST c0 c1
        cases tb
        · clear HTF
          go_wp2_with fail
          go_at_call 34
          refine (HDM.out w15 HIn.out.1).mono ?_
          rintro e w16 ⟨⟨d3, sa3, sc3, oa3, oc3, p3, xs3, la3, lc3, x3, y3, rfl, hdr⟩, hb⟩
          obtain ⟨hf, hs⟩ := any_fits hdr.1.1 hdr.1.2.1 hdr.1.2.2
          obtain ⟨p30, p31⟩ := hdr.2.1
          have hx4 := hdr.2.2.1
          have hIn3 := In10.of HIn.out.1 hb hdr 27
          clear hdr hb HIn HDM
          have hxs : PatternsSmall xs3 := by unfold PatternsSmall; omega
          have HIM := Lib.hid (fun w (h : NetAt w (.agg #[.slice sa3 d3.stops.length sc3, .slice oa3 d3.lines.length oc3]) d3) (g : PatternsAt w (.slice la3 xs3.length lc3) xs3) => implMeeting_any _ _ d3 p3 xs3 x3 y3 w h g hf hs hxs)
          have HSM := Lib.hid (fun w (h : NetAt w (.agg #[.slice sa3 d3.stops.length sc3, .slice oa3 d3.lines.length oc3]) d3) (g : PatternsAt w (.slice la3 xs3.length lc3) xs3) => specMeeting_any _ _ d3 p3 xs3 x3 y3 w h g hf hs hxs)
          clear hf hs hxs
          generalize mtF d3 p3 xs3 x3 y3 = mf at *
          generalize mtB d3 p3 xs3 x3 y3 = mb at *
          go_wp2_with fail
          obtain ⟨w17, hwn⟩ : ∃ wn : World, wn = w16.alloc (.cells #[.slice sa3 d3.stops.length sc3, .slice oa3 d3.lines.length oc3] 27) := ⟨_, rfl⟩
          rw [← hwn] at hIn3 ⊢
          generalize w16.heap.size = nb3 at *
          clear hwn
          have HIn := Lib.hid hIn3
          obtain ⟨-, -, -, c0, c1⟩ := hIn3
          go_at_call 35
          refine (HIM.out w17 HIn.out.2.1 HIn.out.2.2.1).mono ?_
          rintro e w18 ⟨⟨zm, rfl, ho⟩, hb⟩
          have HM1 := Lib.hid (rowAt_own ho)
          obtain ⟨zma, zmc, rfl, -, -, -⟩ := ints_open (rowAt_own ho)
          clear ho
          have HIn := Lib.hid (HIn.out.below hb)
          clear hb c0 c1
          obtain ⟨-, -, -, c0, c1⟩ := HIn.out
          clear HIM
          go_wp2_with fail
          go_at_call 36
          refine (HSM.out w18 HIn.out.2.1 HIn.out.2.2.1).mono ?_
          rintro e w19 ⟨⟨zn, rfl, ho⟩, hb⟩
          have HM2 := Lib.hid (rowAt_own ho)
          obtain ⟨zna, znc, rfl, -, -, -⟩ := ints_open (rowAt_own ho)
          clear ho
          have HM1 := Lib.hid (HM1.out.below rfl hb)
          have HIn := Lib.hid (HIn.out.below hb)
          clear hb c0 c1
          obtain ⟨-, -, -, c0, c1⟩ := HIn.out
          clear HSM c0 c1
          go_wp2_with fail
          go_at_call 37
          refine (HDE.out w19 HIn.out.1).mono ?_
          rintro e w20 ⟨⟨x4, y4, rfl⟩, hb⟩
          have HM1 := Lib.hid (HM1.out.below rfl hb)
          have HM2 := Lib.hid (HM2.out.below rfl hb)
          have HB4 := Lib.hid (HIn.out.1.trans (hb.mono HIn.out.1.size))
          clear hb HIn HDE
          have HIE := Lib.hid (implEvenTimes_any x4 y4)
          have HSE := Lib.hid (specEvenTimes_any x4 y4)
          generalize evF x4 y4 = ef at *
          generalize evB x4 y4 = eb at *
          go_wp2_with fail
          go_at_call 38
          refine (HIE.out w20).mono ?_
          rintro e w21 ⟨⟨zi, rfl, ho⟩, hb⟩
          have HE1 := Lib.hid (rowAt_own ho)
          obtain ⟨zia, zic, rfl, -, -, -⟩ := ints_open (rowAt_own ho)
          clear ho
          have HM1 := Lib.hid (HM1.out.below rfl hb)
          have HM2 := Lib.hid (HM2.out.below rfl hb)
          have HB4 := Lib.hid (HB4.out.trans (hb.mono HB4.out.size))
          clear hb
          clear HIE
          go_wp2_with fail
          go_at_call 39
          refine (HSE.out w21).mono ?_
          rintro e w22 ⟨⟨zj, rfl, ho⟩, hb⟩
          have HE2 := Lib.hid (rowAt_own ho)
          obtain ⟨zja, zjc, rfl, -, -, -⟩ := ints_open (rowAt_own ho)
          clear ho
          have HM1 := Lib.hid (HM1.out.below rfl hb)
          have HM2 := Lib.hid (HM2.out.below rfl hb)
          have HE1 := Lib.hid (HE1.out.below rfl hb)
          have HB4 := Lib.hid (HB4.out.trans (hb.mono HB4.out.size))
          clear hb
          clear HSE
          go_wp2_with fail
          go_at_call 19
          refine (rInts_any _ _ mf w22 HM1.out HM2.out).mono ?_
          rintro e w23 ⟨rfl, hb⟩
          have HE1 := Lib.hid (HE1.out.below rfl hb)
          have HE2 := Lib.hid (HE2.out.below rfl hb)
          have HB4 := Lib.hid (HB4.out.trans (hb.mono HB4.out.size))
          clear hb
          clear HM1 HM2
          go_wp2_with fail
          go_at_call 19
          refine (rInts_any _ _ ef w23 HE1.out HE2.out).mono ?_
          rintro e w24 ⟨rfl, hb⟩
          have HB4 := Lib.hid (HB4.out.trans (hb.mono HB4.out.size))
          clear hb
          clear HE1 HE2
          go_wp2_with fail
          go_ret
          exact ⟨rfl, HB4.out⟩
        · obtain ⟨⟨hp1, hp2⟩, ⟨hz1, hz2⟩, ht1, ht2⟩ := HTF.out rfl
          clear HTF
          have hd1 : decide (tf < z2) = false := decide_eq_false (by omega)
          have hwz : IntKind.i64.wrap (z2 + p2) = z2 + p2 := IntWalk.i64_in _ (by omega)
          have hd2 : decide (z2 + p2 ≤ tf) = false := decide_eq_false (by omega)
          go_wp2_with fail
          go_at_call 34
          refine (HDM.out w15 HIn.out.1).mono ?_
          rintro e w16 ⟨⟨d3, sa3, sc3, oa3, oc3, p3, xs3, la3, lc3, x3, y3, rfl, hdr⟩, hb⟩
          obtain ⟨hf, hs⟩ := any_fits hdr.1.1 hdr.1.2.1 hdr.1.2.2
          obtain ⟨p30, p31⟩ := hdr.2.1
          have hx4 := hdr.2.2.1
          have hIn3 := In10.of HIn.out.1 hb hdr 27
          clear hdr hb HIn HDM
          have hxs : PatternsSmall xs3 := by unfold PatternsSmall; omega
          have HIM := Lib.hid (fun w (h : NetAt w (.agg #[.slice sa3 d3.stops.length sc3, .slice oa3 d3.lines.length oc3]) d3) (g : PatternsAt w (.slice la3 xs3.length lc3) xs3) => implMeeting_any _ _ d3 p3 xs3 x3 y3 w h g hf hs hxs)
          have HSM := Lib.hid (fun w (h : NetAt w (.agg #[.slice sa3 d3.stops.length sc3, .slice oa3 d3.lines.length oc3]) d3) (g : PatternsAt w (.slice la3 xs3.length lc3) xs3) => specMeeting_any _ _ d3 p3 xs3 x3 y3 w h g hf hs hxs)
          clear hf hs hxs
          generalize mtF d3 p3 xs3 x3 y3 = mf at *
          generalize mtB d3 p3 xs3 x3 y3 = mb at *
          go_wp2_with fail
          obtain ⟨w17, hwn⟩ : ∃ wn : World, wn = w16.alloc (.cells #[.slice sa3 d3.stops.length sc3, .slice oa3 d3.lines.length oc3] 27) := ⟨_, rfl⟩
          rw [← hwn] at hIn3 ⊢
          generalize w16.heap.size = nb3 at *
          clear hwn
          have HIn := Lib.hid hIn3
          obtain ⟨-, -, -, c0, c1⟩ := hIn3
          go_at_call 35
          refine (HIM.out w17 HIn.out.2.1 HIn.out.2.2.1).mono ?_
          rintro e w18 ⟨⟨zm, rfl, ho⟩, hb⟩
          have HM1 := Lib.hid (rowAt_own ho)
          obtain ⟨zma, zmc, rfl, -, -, -⟩ := ints_open (rowAt_own ho)
          clear ho
          have HIn := Lib.hid (HIn.out.below hb)
          clear hb c0 c1
          obtain ⟨-, -, -, c0, c1⟩ := HIn.out
          clear HIM
          go_wp2_with fail
          go_at_call 36
          refine (HSM.out w18 HIn.out.2.1 HIn.out.2.2.1).mono ?_
          rintro e w19 ⟨⟨zn, rfl, ho⟩, hb⟩
          have HM2 := Lib.hid (rowAt_own ho)
          obtain ⟨zna, znc, rfl, -, -, -⟩ := ints_open (rowAt_own ho)
          clear ho
          have HM1 := Lib.hid (HM1.out.below rfl hb)
          have HIn := Lib.hid (HIn.out.below hb)
          clear hb c0 c1
          obtain ⟨-, -, -, c0, c1⟩ := HIn.out
          clear HSM c0 c1
          go_wp2_with fail
          go_at_call 37
          refine (HDE.out w19 HIn.out.1).mono ?_
          rintro e w20 ⟨⟨x4, y4, rfl⟩, hb⟩
          have HM1 := Lib.hid (HM1.out.below rfl hb)
          have HM2 := Lib.hid (HM2.out.below rfl hb)
          have HB4 := Lib.hid (HIn.out.1.trans (hb.mono HIn.out.1.size))
          clear hb HIn HDE
          have HIE := Lib.hid (implEvenTimes_any x4 y4)
          have HSE := Lib.hid (specEvenTimes_any x4 y4)
          generalize evF x4 y4 = ef at *
          generalize evB x4 y4 = eb at *
          go_wp2_with fail
          go_at_call 38
          refine (HIE.out w20).mono ?_
          rintro e w21 ⟨⟨zi, rfl, ho⟩, hb⟩
          have HE1 := Lib.hid (rowAt_own ho)
          obtain ⟨zia, zic, rfl, -, -, -⟩ := ints_open (rowAt_own ho)
          clear ho
          have HM1 := Lib.hid (HM1.out.below rfl hb)
          have HM2 := Lib.hid (HM2.out.below rfl hb)
          have HB4 := Lib.hid (HB4.out.trans (hb.mono HB4.out.size))
          clear hb
          clear HIE
          go_wp2_with fail
          go_at_call 39
          refine (HSE.out w21).mono ?_
          rintro e w22 ⟨⟨zj, rfl, ho⟩, hb⟩
          have HE2 := Lib.hid (rowAt_own ho)
          obtain ⟨zja, zjc, rfl, -, -, -⟩ := ints_open (rowAt_own ho)
          clear ho
          have HM1 := Lib.hid (HM1.out.below rfl hb)
          have HM2 := Lib.hid (HM2.out.below rfl hb)
          have HE1 := Lib.hid (HE1.out.below rfl hb)
          have HB4 := Lib.hid (HB4.out.trans (hb.mono HB4.out.size))
          clear hb
          clear HSE
          go_wp2_with fail
          go_at_call 19
          refine (rInts_any _ _ mf w22 HM1.out HM2.out).mono ?_
          rintro e w23 ⟨rfl, hb⟩
          have HE1 := Lib.hid (HE1.out.below rfl hb)
          have HE2 := Lib.hid (HE2.out.below rfl hb)
          have HB4 := Lib.hid (HB4.out.trans (hb.mono HB4.out.size))
          clear hb
          clear HM1 HM2
          go_wp2_with fail
          go_at_call 19
          refine (rInts_any _ _ ef w23 HE1.out HE2.out).mono ?_
          rintro e w24 ⟨rfl, hb⟩
          have HB4 := Lib.hid (HB4.out.trans (hb.mono HB4.out.size))
          clear hb
          clear HE1 HE2
          go_wp2_with fail
          go_ret
          exact ⟨rfl, HB4.out⟩
end Go.Proofs.Ytfgkfdkdjegaiaa.fnOffsets
