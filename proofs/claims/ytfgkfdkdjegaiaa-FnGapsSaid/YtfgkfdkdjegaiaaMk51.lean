/-
  JOINED TEXTS, each under its own namespace line: CodeIn, FnGapsWalk, Closed.
-/
import Derived.Test.YtfgkfdkdjegaiaaMk01
import Derived.ProofKit
import Derived.OpenShut
import Derived.Test.YtfgkfdkdjegaiaaMk50
import Derived.Deep.DeepCutAuto
import Derived.Deep.RegionLaw
import Derived.BigQuiet
import Derived.Test.YtfgkfdkdjegaiaaRows
import Derived.WalkKit
import Derived.Deep.DeepHandedRow
namespace Go.Proofs.Ytfgkfdkdjegaiaa
open Go.RowKit Go.ChangeShapes Go.WideShapes Go.ChangeAt
set_option linter.unusedVariables false

set_option maxRecDepth 100000 in
theorem codeAt_of {H : Type} {enc : TypeId × Value → H} {W : World} {base base' : Nat} {spare : Nat → Bool} {held : Bool} {v : Value} {d : DataW H} {p : List MemPlace}
    (hv : Value.okWide Try.prog W .any base 22 v) (h : DataW.Trod enc Try.prog W base' spare held 22 v d p) : CodeAt W v := by
  obtain ⟨a, len, cap, rfl⟩ := okWide_slice Try.underlying22 hv
  obtain ⟨fuel, hf⟩ := h
  rcases open_ints Try.underlying22 Try.underlying5 (by kernel_rfl) hf with ⟨hcs, _⟩ | ⟨x, l, c, zs, hcs, _, hl, hm, hz, _, hcell, hwz⟩
  · simp [Value.cells] at hcs
    obtain ⟨rfl, rfl, rfl⟩ := hcs
    exact ⟨[], none, 0, rfl, Nat.le_refl _, by decide, fun k u hu => by simp at hu⟩
  · simp [Value.cells] at hcs
    obtain ⟨rfl, rfl, rfl⟩ := hcs
    have hz' : len ≤ zs.length := by rw [hz]; split <;> omega
    refine ⟨(zs.take len).map fun z => UInt8.ofNat z.toNat, some x, cap, by simp [Nat.min_eq_left hz'], by simp; omega, hm, fun k u hu => ?_⟩
    have hk : k < len := by have := (List.getElem?_eq_some_iff.1 hu).1; simp at this; omega
    have hk' : k < zs.length := by omega
    have hcl := hcell k hk'
    obtain ⟨b, off, sp⟩ := x
    have hsp : sp = none := by
      have := World.cell?_spot (hcell 0 (by omega))
      simpa [Addr.add] using this
    subst hsp
    rw [addr_add] at hcl
    refine ⟨b, off, rfl, World.block_lt_of_cell? W _ hcl, ?_⟩
    rw [hcl]
    have hw := hwz _ (List.getElem_mem hk')
    have hb : 0 ≤ zs[k] ∧ zs[k] ≤ 255 := by simpa [Lit.wf, IntKind.min, IntKind.max, IntKind.signed, IntKind.bits] using hw
    have hu' : byteV (UInt8.ofNat (zs[k]).toNat) = u := by
      have := hu
      simp [hk, List.getElem?_eq_getElem hk'] at this
      exact this
    rw [← hu', byteV]
    have : ((UInt8.ofNat (zs[k]).toNat).toNat : Int) = zs[k] := by rw [UInt8.toNat_ofNat']; omega
    rw [this]
    simp [List.getD, List.getElem?_eq_getElem hk']

end Go.Proofs.Ytfgkfdkdjegaiaa

namespace Go.Proofs.Ytfgkfdkdjegaiaa.fnGaps
open Go.RowKit
set_option linter.unusedVariables false
set_option linter.unusedSimpArgs false

/-- what the law's calls find in memory -/
def In10 (W w : World) (nb : Nat) (u0 u1 nv lv : Value) (d : NetD) (xs : List PatternD) : Prop := Below W.heap.size W w ∧ NetAt w nv d ∧ PatternsAt w lv xs ∧ w.cell? ⟨nb, 0, none⟩ = some u0 ∧ w.cell? ⟨nb, 1, none⟩ = some u1
theorem In10.below {W w w' : World} {nb : Nat} {u0 u1 nv lv : Value} {d : NetD} {xs : List PatternD} (h : In10 W w nb u0 u1 nv lv d xs) (hb : Below w.heap.size w w') : In10 W w' nb u0 u1 nv lv d xs :=
  ⟨h.1.trans (hb.mono h.1.size), h.2.1.below rfl hb, h.2.2.1.below rfl hb, bkeep hb h.2.2.2.1, bkeep hb h.2.2.2.2⟩

set_option maxRecDepth 100000 in
set_option maxHeartbeats 8000000 in
theorem walk (v0 : Value) (W : World) (S0 : CodeAt W v0) (hL : laidMetH Try.prog Rows.fnGapsRow.laid W) (hsh : W.ShapedOpen Try.prog) :
    Calls Try.prog 3 #[v0] W fun e w' => e = .returned (.bool true) ∧ Below W.heap.size W w' := by
  clear hL hsh
  have HD := Lib.hid (drawGapsAt_any v0 W S0)
  obtain ⟨l, a, c, rfl, h1, h2, h3⟩ := S0
  clear h3
  obtain ⟨b1, b2⟩ := rBig_any a _ c W (show (l.map byteV).length ≤ maxLen by unfold maxLen at *; omega)
  generalize (l.map byteV).length = n at *
  by_cases hbig : 65536 < n
  · have HB := Lib.hid (b1 hbig)
    clear b1 b2
    go_enter Try.func3, Try.ntmps3
    go_wp2_with (go_at_call 15; refine HB.out.mono ?_; rintro e w' ⟨rfl, rfl⟩)
    go_ret
    exact ⟨rfl, Below.refl _ _⟩
  have HB := Lib.hid (b2 (by omega))
  clear b1 b2
  go_enter Try.func3, Try.ntmps3
  go_wp2_with fail
  go_at_call 15
  refine HB.out.mono ?_
  rintro e w' ⟨rfl, rfl⟩
  clear HB
  go_wp2_with fail
  go_at_call 16
  refine HD.out.mono ?_
  rintro e w1 ⟨⟨d, sa, sc, oa, oc, p, xs, la, lc, r, rfl, hdr, r0, r1⟩, hb⟩
  clear HD hbig h1 h2 l
  obtain ⟨hf, hs⟩ := any_fits hdr.1.1 hdr.1.2.1 hdr.1.2.2
  obtain ⟨p0, p1⟩ := hdr.2.1
  have hIn : ∀ u, In10 W (w1.alloc (.cells #[.slice sa d.stops.length sc, .slice oa d.lines.length oc] u)) w1.heap.size (.slice sa d.stops.length sc) (.slice oa d.lines.length oc) (.agg #[.slice sa d.stops.length sc, .slice oa d.lines.length oc]) (.slice la xs.length lc) d xs := fun u =>
    ⟨(hb.trans ((Below.refl _ _).alloc hb.size _)), hdr.2.2.2.2.1.at.below rfl ((Below.refl _ _).alloc (Nat.le_refl _) _), (patsAt_own hdr.2.2.2.2.2).below rfl ((Below.refl _ _).alloc (Nat.le_refl _) _), by go_simp, by go_simp⟩
  have hIn2 := hIn 27
  clear hIn hdr hb
  have HFct := Lib.hid (gp_facts d p xs r)
  have HIG := Lib.hid (fun w (h : NetAt w (.agg #[.slice sa d.stops.length sc, .slice oa d.lines.length oc]) d) (g : PatternsAt w (.slice la xs.length lc) xs) => implGapsAt_any _ _ d p xs r w h g hf hs)
  have HSG := Lib.hid (fun w (h : NetAt w (.agg #[.slice sa d.stops.length sc, .slice oa d.lines.length oc]) d) (g : PatternsAt w (.slice la xs.length lc) xs) => specGapsAt_any _ _ d p xs r w h g hf hs)
  have HIP := Lib.hid (fun w (h : NetAt w (.agg #[.slice sa d.stops.length sc, .slice oa d.lines.length oc]) d) (g : PatternsAt w (.slice la xs.length lc) xs) => implPats_any _ _ d p xs w h g hf)
  have HIR := Lib.hid (fun w (h : NetAt w (.agg #[.slice sa d.stops.length sc, .slice oa d.lines.length oc]) d) (g : PatternsAt w (.slice la xs.length lc) xs) => implPassingRests_any _ _ d p xs r w h g hf hs)
  have HIL := Lib.hid (fun w (h : NetAt w (.agg #[.slice sa d.stops.length sc, .slice oa d.lines.length oc]) d) (g : PatternsAt w (.slice la xs.length lc) xs) => implLargestGap_any _ _ d p xs r w h g hf hs)
  have HIW := Lib.hid (fun w (h : NetAt w (.agg #[.slice sa d.stops.length sc, .slice oa d.lines.length oc]) d) (g : PatternsAt w (.slice la xs.length lc) xs) => implDoubleWait_any _ _ d p xs r w h g hf hs)
  have HIU := Lib.hid (fun w (h : NetAt w (.agg #[.slice sa d.stops.length sc, .slice oa d.lines.length oc]) d) (g : PatternsAt w (.slice la xs.length lc) xs) => implUnevenness_any _ _ d p xs r w h g hf hs)
  have HSU := Lib.hid (fun w (h : NetAt w (.agg #[.slice sa d.stops.length sc, .slice oa d.lines.length oc]) d) (g : PatternsAt w (.slice la xs.length lc) xs) => specUnevenness_any _ _ d p xs r w h g hf hs)
  clear hf hs
  generalize gpF d p xs r = gl at *
  generalize prF d p xs r = rl at *
  generalize askG d p xs r = tb at *
  generalize servB d p xs r = sb at *
  generalize lgF d p xs r = lg at *
  generalize dwF d p xs r = dw at *
  generalize unF d p xs r = un at *
  generalize unB d p xs r = ub at *
  generalize patsB d p xs = pb at *
  obtain ⟨lg1, lg2⟩ := lg
  obtain ⟨dw1, dw2⟩ := dw
  go_wp2_with fail
  obtain ⟨w2, hw2⟩ : ∃ w2 : World, w2 = w1.alloc (.cells #[.slice sa d.stops.length sc, .slice oa d.lines.length oc] 27) := ⟨_, rfl⟩
  rw [← hw2] at hIn2 ⊢
  generalize w1.heap.size = nb at *
  clear hw2
  have HIn := Lib.hid hIn2
  obtain ⟨-, -, -, c0, c1⟩ := hIn2
  go_at_call 17
  refine (HIG.out w2 HIn.out.2.1 HIn.out.2.2.1).mono ?_
  rintro e w3 ⟨⟨zg, rfl, ho⟩, hb⟩
  have HG := Lib.hid (rowAt_own ho)
  obtain ⟨zga, zgc, rfl, -, -, -⟩ := ints_open (rowAt_own ho)
  clear ho
  have HIn := Lib.hid (HIn.out.below hb)
  clear hb c0 c1
  obtain ⟨-, -, -, c0, c1⟩ := HIn.out
  clear HIG
  go_wp2_with fail
  go_at_call 18
  refine (HSG.out w3 HIn.out.2.1 HIn.out.2.2.1).mono ?_
  rintro e w4 ⟨⟨zw, rfl, ho⟩, hb⟩
  have HW := Lib.hid (rowAt_own ho)
  obtain ⟨zwa, zwc, rfl, -, -, -⟩ := ints_open (rowAt_own ho)
  clear ho
  have HG := Lib.hid (HG.out.below rfl hb)
  have HIn := Lib.hid (HIn.out.below hb)
  clear hb c0 c1
  obtain ⟨-, -, -, c0, c1⟩ := HIn.out
  clear HSG
  go_wp2_with fail
  go_at_call 19
  refine (rInts_any _ _ gl w4 HG.out HW.out).mono ?_
  rintro e w5 ⟨rfl, hb⟩
  have HG := Lib.hid (HG.out.below rfl hb)
  have HIn := Lib.hid (HIn.out.below hb)
  clear hb c0 c1
  obtain ⟨-, -, -, c0, c1⟩ := HIn.out
  clear HW
  cases tb
  · clear HIP
    go_wp2_with fail
    go_at_call 21
    refine (HIR.out w5 HIn.out.2.1 HIn.out.2.2.1).mono ?_
    rintro e w6 ⟨⟨zr, rfl, ho⟩, hb⟩
    have HR := Lib.hid (rowAt_own ho)
    obtain ⟨zra, zrc, rfl, -, -, -⟩ := ints_open (rowAt_own ho)
    clear ho
    have HG := Lib.hid (HG.out.below rfl hb)
    have HIn := Lib.hid (HIn.out.below hb)
    clear hb c0 c1
    obtain ⟨-, -, -, c0, c1⟩ := HIn.out
    clear HIR
    go_wp2_with fail
    go_at_call 22
    refine (HIL.out w6 HIn.out.2.1 HIn.out.2.2.1).mono ?_
    rintro e w7 ⟨rfl, hb⟩
    have HG := Lib.hid (HG.out.below rfl hb)
    have HR := Lib.hid (HR.out.below rfl hb)
    have HIn := Lib.hid (HIn.out.below hb)
    clear hb c0 c1
    obtain ⟨-, -, -, c0, c1⟩ := HIn.out
    clear HIL
    go_wp2_with fail
    go_at_call 23
    refine (HIW.out w7 HIn.out.2.1 HIn.out.2.2.1).mono ?_
    rintro e w8 ⟨rfl, hb⟩
    have HG := Lib.hid (HG.out.below rfl hb)
    have HR := Lib.hid (HR.out.below rfl hb)
    have HIn := Lib.hid (HIn.out.below hb)
    clear hb c0 c1
    obtain ⟨-, -, -, c0, c1⟩ := HIn.out
    clear HIW
    have hfc := HFct.out
    obtain ⟨⟨hll, hl3, hgl⟩, -, hsb, hun, hyes⟩ := hfc
    by_cases hpos : 0 < gl.length
    rotate_left
    · obtain rfl : sb = false := by rw [hsb]; exact decide_eq_false hpos
      obtain rfl : gl = [] := List.eq_nil_of_length_eq_zero (by omega)
      obtain rfl : rl = [] := List.eq_nil_of_length_eq_zero (by simpa using hll.symm)
      clear hll hl3 hgl hsb hun hyes hpos HFct
      go_wp2_with fail
      go_ret
      exact ⟨rfl, HIn.out.1⟩
    · obtain rfl : sb = true := by rw [hsb]; exact decide_eq_true hpos
      obtain ⟨hsum, hm1, hmx, hm2, hdw⟩ := hyes rfl
      obtain ⟨rfl, rfl⟩ : dw1 = sqs gl ∧ dw2 = p := by injection hdw with e1 e2; exact ⟨e1, e2⟩
      have HGl := Lib.hid hgl
      have HSm := Lib.hid hsum
      have HM1 := Lib.hid hm1
      have HM2 := Lib.hid hm2
      have HMx := Lib.hid hmx
      have HUn := Lib.hid hun
      have hq : (rl.length : Int) = (gl.length : Int) := by omega
      have hd : decide (0 < gl.length) = true := decide_eq_true hpos
      have hp1 : (0 : Int) < (gl.length : Int) := by omega
      obtain ⟨ha, hc, hhe, hhb, hhc, HX⟩ := ints_open HG.out
      obtain ⟨rfl, rfl⟩ : ha = zga ∧ hc = zgc := by injection hhe with e1 e2 e3; exact ⟨e1.symm, e3.symm⟩
      clear hhe hhb hhc hsum hm1 hmx hm2 hdw hgl hyes hun hsb hll HFct
      go_wp2_with fail
      obtain ⟨wv, hwv⟩ : ∃ wv : World, wv = w8 := ⟨_, rfl⟩
      subst hwv
      go_loopw [19, 20] (fun s q wr => ∃ k : Nat, k ≤ gl.length ∧ q = .int .i64 k ∧ s = .int .i64 (sqs (gl.take k)) ∧ Hid (Below wv.heap.size wv wr)) (fun _ q _ => gl.length - (RowKit.intOf q).toNat)
      case atStart => exact ⟨0, Nat.zero_le _, rfl, by simp [sqs], Below.refl _ _⟩
      case round =>
        obtain ⟨k, hk, rfl, rfl, HB⟩ := hrel
        have hbd := sqs_in (gl.take k) (fun x hx => HGl.out x (List.mem_of_mem_take hx))
        have hlen : (gl.take k).length ≤ 1000 := by simp; omega
        by_cases hlt : k < gl.length
        · obtain ⟨b, off, hga, hbl, hcx⟩ := HX.out k hlt
          subst hga
          have hcx := bkeep HB.out hcx
          have hx := sq_in (HGl.out _ (List.getElem_mem hlt))
          have hxm := HMx.out _ (List.getElem_mem hlt)
          have HS := Lib.hid (sqs_take gl k hlt)
          have hk1 : (k : Int) < (gl.length : Int) := by omega
          generalize sqs (gl.take k) = s0 at *
          generalize gl[k] = x at *
          have hw1 : IntKind.i64.wrap (x * x) = x * x := IntWalk.i64_in _ (by omega)
          have hw2 : IntKind.i64.wrap (s0 + x * x) = s0 + x * x := IntWalk.i64_in _ (by omega)
          have hd2 : decide (lg1 < x) = false := decide_eq_false (by omega)
          clear hbd hlen hxm c0 c1
          obtain ⟨wd, hwd⟩ : ∃ wd : World, wd = wr := ⟨_, rfl⟩
          subst hwd
          go_wp2_with fail
          go_quiet (fail)
          go_wp2_with fail
          go_roundw
          case rel => exact ⟨k + 1, by omega, by go_num, by rw [HS.out], below_drewN HB.out _⟩
          case measure => simp [RowKit.intOf]; omega
        · have hkl : k = gl.length := by omega
          have he : gl.take k = gl := List.take_of_length_le (by omega)
          have HS : Hid (sqs (gl.take k) = sqs gl) := by show _ = _; rw [he]
          clear he hbd hlen c0 c1
          rw [HS.out]
          clear HS HX HMx hd hp1
          have HIn := Lib.hid (HIn.out.below HB.out)
          have HG := Lib.hid (HG.out.below rfl HB.out)
          have HR := Lib.hid (HR.out.below rfl HB.out)
          obtain ⟨wx, hwx⟩ : ∃ wx : World, wx = wr := ⟨_, rfl⟩
          subst hwx
          clear HB
          have HSu := rSum_any _ gl wx HG.out (by omega) HGl.out
          rw [HSm.out] at HSu
          have HSu := Lib.hid HSu
          clear HSm HGl
          go_wp2_with fail
          go_at_call 24
          refine HSu.out.mono ?_
          rintro e wy ⟨rfl, hb⟩
          clear HSu
          have HIn := Lib.hid (HIn.out.below hb)
          have HG := Lib.hid (HG.out.below rfl hb)
          have HR := Lib.hid (HR.out.below rfl hb)
          clear hb
          go_wp2_with fail
          go_at_call 25
          refine (rHas_any _ gl lg1 wy HG.out HM1.out).mono ?_
          rintro e wz ⟨rfl, hb⟩
          have HIn := Lib.hid (HIn.out.below hb)
          have HR := Lib.hid (HR.out.below rfl hb)
          clear hb HG
          go_wp2_with fail
          go_at_call 25
          refine (rHas_any _ rl lg2 wz HR.out HM2.out).mono ?_
          rintro e wq ⟨rfl, hb⟩
          have HIn := Lib.hid (HIn.out.below hb)
          clear hb HR
          obtain ⟨-, -, -, c0, c1⟩ := HIn.out
          go_wp2_with fail
          go_at_call 26
          refine (HIU.out wq HIn.out.2.1 HIn.out.2.2.1).mono ?_
          rintro e wu ⟨rfl, hb⟩
          have HIn := Lib.hid (HIn.out.below hb)
          clear hb c0 c1 HIU
          obtain ⟨-, -, -, c0, c1⟩ := HIn.out
          go_wp2_with fail
          go_at_call 27
          refine (HSU.out wu HIn.out.2.1 HIn.out.2.2.1).mono ?_
          rintro e wf ⟨rfl, hb⟩
          have HBf := Lib.hid (HIn.out.1.trans (hb.mono HIn.out.1.size))
          clear hb c0 c1 HSU HIn
          have hu0 : (0 : Int) ≤ un := HUn.out
          have hu1 : decide ((0 : Int) ≤ un) = true := decide_eq_true hu0
          go_wp2_with fail
          go_ret
          exact ⟨rfl, HBf.out⟩
  · obtain rfl : pb = true := HFct.out.2.1 rfl
    go_wp2_with fail
    go_at_call 20
    refine (HIP.out w5 HIn.out.2.1 HIn.out.2.2.1).mono ?_
    rintro e w6 ⟨rfl, hb⟩
    have HG := Lib.hid (HG.out.below rfl hb)
    have HIn := Lib.hid (HIn.out.below hb)
    clear hb c0 c1
    obtain ⟨-, -, -, c0, c1⟩ := HIn.out
    clear HIP
    go_wp2_with fail
    go_at_call 21
    refine (HIR.out w6 HIn.out.2.1 HIn.out.2.2.1).mono ?_
    rintro e w7 ⟨⟨zr, rfl, ho⟩, hb⟩
    have HR := Lib.hid (rowAt_own ho)
    obtain ⟨zra, zrc, rfl, -, -, -⟩ := ints_open (rowAt_own ho)
    clear ho
    have HG := Lib.hid (HG.out.below rfl hb)
    have HIn := Lib.hid (HIn.out.below hb)
    clear hb c0 c1
    obtain ⟨-, -, -, c0, c1⟩ := HIn.out
    clear HIR
    go_wp2_with fail
    go_at_call 22
    refine (HIL.out w7 HIn.out.2.1 HIn.out.2.2.1).mono ?_
    rintro e w8 ⟨rfl, hb⟩
    have HG := Lib.hid (HG.out.below rfl hb)
    have HR := Lib.hid (HR.out.below rfl hb)
    have HIn := Lib.hid (HIn.out.below hb)
    clear hb c0 c1
    obtain ⟨-, -, -, c0, c1⟩ := HIn.out
    clear HIL
    go_wp2_with fail
    go_at_call 23
    refine (HIW.out w8 HIn.out.2.1 HIn.out.2.2.1).mono ?_
    rintro e w9 ⟨rfl, hb⟩
    have HG := Lib.hid (HG.out.below rfl hb)
    have HR := Lib.hid (HR.out.below rfl hb)
    have HIn := Lib.hid (HIn.out.below hb)
    clear hb c0 c1
    obtain ⟨-, -, -, c0, c1⟩ := HIn.out
    clear HIW
    have hfc := HFct.out
    obtain ⟨⟨hll, hl3, hgl⟩, -, hsb, hun, hyes⟩ := hfc
    by_cases hpos : 0 < gl.length
    rotate_left
    · obtain rfl : sb = false := by rw [hsb]; exact decide_eq_false hpos
      obtain rfl : gl = [] := List.eq_nil_of_length_eq_zero (by omega)
      obtain rfl : rl = [] := List.eq_nil_of_length_eq_zero (by simpa using hll.symm)
      clear hll hl3 hgl hsb hun hyes hpos HFct
      go_wp2_with fail
      go_ret
      exact ⟨rfl, HIn.out.1⟩
    · obtain rfl : sb = true := by rw [hsb]; exact decide_eq_true hpos
      obtain ⟨hsum, hm1, hmx, hm2, hdw⟩ := hyes rfl
      obtain ⟨rfl, rfl⟩ : dw1 = sqs gl ∧ dw2 = p := by injection hdw with e1 e2; exact ⟨e1, e2⟩
      have HGl := Lib.hid hgl
      have HSm := Lib.hid hsum
      have HM1 := Lib.hid hm1
      have HM2 := Lib.hid hm2
      have HMx := Lib.hid hmx
      have HUn := Lib.hid hun
      have hq : (rl.length : Int) = (gl.length : Int) := by omega
      have hd : decide (0 < gl.length) = true := decide_eq_true hpos
      have hp1 : (0 : Int) < (gl.length : Int) := by omega
      obtain ⟨ha, hc, hhe, hhb, hhc, HX⟩ := ints_open HG.out
      obtain ⟨rfl, rfl⟩ : ha = zga ∧ hc = zgc := by injection hhe with e1 e2 e3; exact ⟨e1.symm, e3.symm⟩
      clear hhe hhb hhc hsum hm1 hmx hm2 hdw hgl hyes hun hsb hll HFct
      go_wp2_with fail
      obtain ⟨wv, hwv⟩ : ∃ wv : World, wv = w9 := ⟨_, rfl⟩
      subst hwv
      go_loopw [19, 20] (fun s q wr => ∃ k : Nat, k ≤ gl.length ∧ q = .int .i64 k ∧ s = .int .i64 (sqs (gl.take k)) ∧ Hid (Below wv.heap.size wv wr)) (fun _ q _ => gl.length - (RowKit.intOf q).toNat)
      case atStart => exact ⟨0, Nat.zero_le _, rfl, by simp [sqs], Below.refl _ _⟩
      case round =>
        obtain ⟨k, hk, rfl, rfl, HB⟩ := hrel
        have hbd := sqs_in (gl.take k) (fun x hx => HGl.out x (List.mem_of_mem_take hx))
        have hlen : (gl.take k).length ≤ 1000 := by simp; omega
        by_cases hlt : k < gl.length
        · obtain ⟨b, off, hga, hbl, hcx⟩ := HX.out k hlt
          subst hga
          have hcx := bkeep HB.out hcx
          have hx := sq_in (HGl.out _ (List.getElem_mem hlt))
          have hxm := HMx.out _ (List.getElem_mem hlt)
          have HS := Lib.hid (sqs_take gl k hlt)
          have hk1 : (k : Int) < (gl.length : Int) := by omega
          generalize sqs (gl.take k) = s0 at *
          generalize gl[k] = x at *
          have hw1 : IntKind.i64.wrap (x * x) = x * x := IntWalk.i64_in _ (by omega)
          have hw2 : IntKind.i64.wrap (s0 + x * x) = s0 + x * x := IntWalk.i64_in _ (by omega)
          have hd2 : decide (lg1 < x) = false := decide_eq_false (by omega)
          clear hbd hlen hxm c0 c1
          obtain ⟨wd, hwd⟩ : ∃ wd : World, wd = wr := ⟨_, rfl⟩
          subst hwd
          go_wp2_with fail
          go_quiet (fail)
          go_wp2_with fail
          go_roundw
          case rel => exact ⟨k + 1, by omega, by go_num, by rw [HS.out], below_drewN HB.out _⟩
          case measure => simp [RowKit.intOf]; omega
        · have hkl : k = gl.length := by omega
          have he : gl.take k = gl := List.take_of_length_le (by omega)
          have HS : Hid (sqs (gl.take k) = sqs gl) := by show _ = _; rw [he]
          clear he hbd hlen c0 c1
          rw [HS.out]
          clear HS HX HMx hd hp1
          have HIn := Lib.hid (HIn.out.below HB.out)
          have HG := Lib.hid (HG.out.below rfl HB.out)
          have HR := Lib.hid (HR.out.below rfl HB.out)
          obtain ⟨wx, hwx⟩ : ∃ wx : World, wx = wr := ⟨_, rfl⟩
          subst hwx
          clear HB
          have HSu := rSum_any _ gl wx HG.out (by omega) HGl.out
          rw [HSm.out] at HSu
          have HSu := Lib.hid HSu
          clear HSm HGl
          go_wp2_with fail
          go_at_call 24
          refine HSu.out.mono ?_
          rintro e wy ⟨rfl, hb⟩
          clear HSu
          have HIn := Lib.hid (HIn.out.below hb)
          have HG := Lib.hid (HG.out.below rfl hb)
          have HR := Lib.hid (HR.out.below rfl hb)
          clear hb
          go_wp2_with fail
          go_at_call 25
          refine (rHas_any _ gl lg1 wy HG.out HM1.out).mono ?_
          rintro e wz ⟨rfl, hb⟩
          have HIn := Lib.hid (HIn.out.below hb)
          have HR := Lib.hid (HR.out.below rfl hb)
          clear hb HG
          go_wp2_with fail
          go_at_call 25
          refine (rHas_any _ rl lg2 wz HR.out HM2.out).mono ?_
          rintro e wq ⟨rfl, hb⟩
          have HIn := Lib.hid (HIn.out.below hb)
          clear hb HR
          obtain ⟨-, -, -, c0, c1⟩ := HIn.out
          go_wp2_with fail
          go_at_call 26
          refine (HIU.out wq HIn.out.2.1 HIn.out.2.2.1).mono ?_
          rintro e wu ⟨rfl, hb⟩
          have HIn := Lib.hid (HIn.out.below hb)
          clear hb c0 c1 HIU
          obtain ⟨-, -, -, c0, c1⟩ := HIn.out
          go_wp2_with fail
          go_at_call 27
          refine (HSU.out wu HIn.out.2.1 HIn.out.2.2.1).mono ?_
          rintro e wf ⟨rfl, hb⟩
          have HBf := Lib.hid (HIn.out.1.trans (hb.mono HIn.out.1.size))
          clear hb c0 c1 HSU HIn
          have hu0 : (0 : Int) ≤ un := HUn.out
          have hu1 : decide ((0 : Int) ≤ un) = true := decide_eq_true hu0
          go_wp2_with fail
          go_ret
          exact ⟨rfl, HBf.out⟩
end Go.Proofs.Ytfgkfdkdjegaiaa.fnGaps

namespace Go.Proofs.Ytfgkfdkdjegaiaa.closed
open Go.ChangeShapes Go.WideShapes Go.ChangeAt Go.RowKit

theorem laidOut : laidOutB Try.pinned.checked.prog = true := by kernel_rfl
theorem rowed : mapsRowed Try.pinned.checked.prog = true := by kernel_rfl
theorem enters : Try.pinned.checked.prog.mayEnter = true := by kernel_rfl
theorem lifts : Try.pinned.checked.prog.liftsFinal = Rows.fnExactIsValidPatternsRow.lifted := by kernel_rfl
theorem made : Try.pinned.checked.prog.make = some Rows.fnExactIsValidPatternsRow.make := by kernel_rfl
theorem heard : Try.pinned.checked.prog.stopsHeard = true := by kernel_rfl
theorem keys : Try.pinned.checked.prog.plainKeys = Rows.fnExactIsValidPatternsRow.plainKeys := by kernel_rfl
end Go.Proofs.Ytfgkfdkdjegaiaa.closed
