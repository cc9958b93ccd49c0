import Derived.Test.YtfgkfdkdjegaiaaBestI
namespace Go.Proofs.Ytfgkfdkdjegaiaa
open Go.RowKit
set_option linter.unusedVariables false
set_option linter.unusedSimpArgs false

def seeV (B G : Nat) : Value := .func (.func 73) #[] #[.pointer (some ⟨B, 0, none⟩), .pointer (some ⟨B + 1, 0, none⟩), .pointer (some ⟨B + 2, 0, none⟩), .pointer (some ⟨B + 3, 0, none⟩), .pointer (some ⟨G + 1, 0, none⟩), .pointer (some ⟨G, 0, none⟩)]
def mvV (G : Nat) : Value := .func (.func 103) #[] #[.pointer (some ⟨G + 3, 0, none⟩), .pointer (some ⟨G + 4, 0, none⟩), .pointer (some ⟨G + 5, 0, none⟩), .pointer (some ⟨G + 2, 0, none⟩), .pointer (some ⟨G + 6, 0, none⟩)]

structure EV (w : World) (nv0 nv1 lst : Value) (p stop : Int) (G : Nat) (bs : List PatternD) (sml : Int) (ms : List PatternD) (W : World) : Prop where
  eb : EB w nv0 nv1 lst p stop G bs sml W
  p2 : W.cell? ⟨G + 2, 0, none⟩ = some (.int .i64 p)
  l2 : W.cell? ⟨G + 3, 0, none⟩ = some lst
  se : W.cell? ⟨G + 4, 0, none⟩ = some (seeV w.heap.size G)
  mo : W.ownsRow w.heap.size 89 2 (.slice (some ⟨G + 5, 0, none⟩) 3 3) 3 (patC ms)
  mf : W.cell? ⟨G + 6, 0, none⟩ = some (mvV G)
theorem EV.seen {w W W' : World} {nv0 nv1 lst : Value} {p stop sml sml' : Int} {G : Nat} {bs bs' ms : List PatternD} (h : EV w nv0 nv1 lst p stop G bs sml ms W) (h' : EB w nv0 nv1 lst p stop G bs' sml' W') (hk : KP G W W') : EV w nv0 nv1 lst p stop G bs' sml' ms W' :=
  ⟨h', hk.cell h.p2 (by omega) (by omega), hk.cell h.l2 (by omega) (by omega), hk.cell h.se (by omega) (by omega), hk.own h.mo (by omega) (by omega), hk.cell h.mf (by omega) (by omega)⟩
theorem EV.setO {w W : World} {nv0 nv1 lst : Value} {p stop sml : Int} {G : Nat} {bs ms : List PatternD} (h : EV w nv0 nv1 lst p stop G bs sml ms W) (i : Nat) (hi : i < ms.length) (o : Int) (s : PatternD) (hs : s = ⟨(ms.getD i ⟨0, 0⟩).line, o⟩) : EV w nv0 nv1 lst p stop G bs sml (ms.set i s) (W.setCell ⟨G + 5, i * 2 + 1, none⟩ (.int .i64 o)) := by
  have hst := h.mo.stored (i * 2 + 1) (.int .i64 o)
  have hG := h.eb.hG
  have e : s = ⟨ms[i].line, o⟩ := by rw [hs]; simp [List.getD, hi]
  have hm := hst.1
  rw [patC_setO ms i o hi, ← e] at hm
  exact ⟨h.eb.other hst.2 (by omega), grB_cell hst.2 h.p2 (by show G + 2 ≠ G + 5; omega), grB_cell hst.2 h.l2 (by show G + 3 ≠ G + 5; omega), grB_cell hst.2 h.se (by show G + 4 ≠ G + 5; omega), hm, grB_cell hst.2 h.mf (by show G + 6 ≠ G + 5; omega)⟩

set_option maxRecDepth 100000 in
set_option maxHeartbeats 8000000 in
theorem moveFrom_any (n : NetD) (a a' : Option Addr) (c c' g go d q : Nat) (p stop : Int) (xs : List PatternD) (w : World) (G : Nat)
    (hn : NetAt w (.agg #[.slice a n.stops.length c, .slice a' n.lines.length c']) n) (hgood : PatsGood n p xs) (hxd : xs.length ≤ d) (h0 : 0 < (restS n p xs stop).length) (hq : p = q) :
    ∀ (dd i c0 : Nat) (_ : i + dd = xs.length) (_ : 1 ≤ i) (W : World) (bs ms : List PatternD) (sml : Int)
      (_ : EV w (.slice a n.stops.length c) (.slice a' n.lines.length c') (.slice (some ⟨g, go, none⟩) xs.length d) p stop G bs sml ms W) (_ : Mt xs p c0 i ms) (_ : AccB n p xs stop (c0 * q ^ dd) bs sml),
      Calls Try.prog 103 #[.int .i64 (i : Int), .pointer (some ⟨G + 3, 0, none⟩), .pointer (some ⟨G + 4, 0, none⟩), .pointer (some ⟨G + 5, 0, none⟩), .pointer (some ⟨G + 2, 0, none⟩), .pointer (some ⟨G + 6, 0, none⟩)] W
        fun e w' => e = .returned (.tuple #[]) ∧ ∃ bs' sml' ms', EV w (.slice a n.stops.length c) (.slice a' n.lines.length c') (.slice (some ⟨g, go, none⟩) xs.length d) p stop G bs' sml' ms' w' ∧ Mt xs p c0 i ms' ∧ AccB n p xs stop ((c0 + 1) * q ^ dd) bs' sml' := by
  have hL := hgood.2.2.1
  have hp1 := hgood.2.1.1
  have hp60 := hgood.2.1.2
  have HQ := Lib.hid hq
  clear hq
  intro dd
  induction dd with
  | zero =>
    intro i c0 hid h1 W bs ms sml hE hM hA
    obtain rfl : i = xs.length := by omega
    rw [Nat.pow_zero, Nat.mul_one] at hA
    have hml := hM.1
    match ms, hml with
    | [x, y, z], _ =>
      have HSee := Lib.hid (see_any n a a' c c' g go d p stop xs w W G c0 bs [x, y, z] sml hn hgood hxd h0 hE.eb hA hM x y z rfl)
      have l2 := hE.l2
      have se := hE.se
      have k0 := hE.mo.cellAt 0 (by omega)
      have k1 := hE.mo.cellAt 1 (by omega)
      have k2 := hE.mo.cellAt 2 (by omega)
      have k3 := hE.mo.cellAt 3 (by omega)
      have k4 := hE.mo.cellAt 4 (by omega)
      have k5 := hE.mo.cellAt 5 (by omega)
      simp only [patC, List.getElem?_cons_zero, List.getElem?_cons_succ] at k0 k1 k2 k3 k4 k5
      have hself : ((xs.length : Int) == (xs.length : Int)) = true := by simp
      have HE := Lib.hid hE
      have HM := Lib.hid hM
      unfold seeV at se
      clear hE hM hA
      go_enter Try.func103, Try.ntmps103
      go_wp2_with fail
      go_at_call 73
      refine HSee.out.mono ?_
      rintro e w2 ⟨rfl, ⟨bs', sml', hE', hA'⟩, hk⟩
      have HE2 := Lib.hid (HE.out.seen hE' hk)
      have HA2 := Lib.hid hA'
      clear hE' hA' hk HSee HE k0 k1 k2 k3 k4 k5 l2 se
      go_wp2_with fail
      (try simp only [Exit.inBlock, Exit.then])
      refine bodyPost_ret (results_none rfl _ _ _) rfl ?_
      exact ⟨rfl, bs', sml', _, HE2.out, HM.out, by rw [Nat.pow_zero, Nat.mul_one]; exact HA2.out⟩
  | succ dd ih =>
    intro i c0 hid h1 W bs ms sml hE hM hA
    have hil : i < xs.length := by omega
    have HIH := Lib.hid (fun o W bs ms sml hE hM hA => ih (i + 1) (c0 * q + o) (by omega) (by omega) W bs ms sml hE hM hA)
    have l2 := hE.l2
    have p2 := hE.p2
    have hne : ((i : Int) == (xs.length : Int)) = false := by rw [beq_eq_false_iff_ne]; omega
    have HE := Lib.hid hE
    have HM := Lib.hid hM
    have HA : Hid (AccB n p xs stop ((c0 * q + 0) * q ^ dd) bs sml) := by
      show AccB _ _ _ _ _ _ _
      rw [show (c0 * q + 0) * q ^ dd = c0 * q ^ (dd + 1) by rw [Nat.pow_succ, Nat.add_zero, Nat.mul_assoc, Nat.mul_comm q]]; exact hA
    have HEnd : Hid ((c0 * q + q) * q ^ dd = (c0 + 1) * q ^ (dd + 1)) := by
      show _ = _
      rw [Nat.pow_succ, show c0 * q + q = (c0 + 1) * q by rw [Nat.add_mul, Nat.one_mul], Nat.mul_assoc, Nat.mul_comm q]
    have hi1w : IntKind.i64.wrap ((i : Int) + 1) = ((i + 1 : Nat) : Int) := by rw [IntWalk.i64_in _ (by omega)]; omega
    have hi3 : (i : Int) < 3 := by omega
    have hi0 : (0 : Int) ≤ (i : Int) := by omega
    clear hE hM hA ih
    go_enter Try.func103, Try.ntmps103
    go_wp2_with fail
    clear l2 p2
    go_loopw [16] (fun q0 wr => ∃ (o : Nat) (bs ms : List PatternD) (sml : Int), o ≤ q ∧ q0 = .int .i64 (o : Int) ∧ Hid (EV w (.slice a n.stops.length c) (.slice a' n.lines.length c') (.slice (some ⟨g, go, none⟩) xs.length d) p stop G bs sml ms wr) ∧ Hid (Mt xs p c0 i ms) ∧ Hid (AccB n p xs stop ((c0 * q + o) * q ^ dd) bs sml))
      (fun q0 _ => q - (RowKit.intOf q0).toNat)
    case atStart => exact ⟨0, bs, ms, sml, Nat.zero_le _, rfl, HE, HM, HA⟩
    case round =>
      clear HE HM HA
      obtain ⟨o, bs, ms, sml, ho, rfl, HE, HM, HA⟩ := hrel
      by_cases hlt : o < q
      · have ho1 : (o : Int) < p := by rw [HQ.out]; omega
        have hml := HM.out.1
        have him : i < ms.length := by omega
        obtain ⟨s, hs⟩ : ∃ s : PatternD, s = ⟨(ms.getD i ⟨0, 0⟩).line, (o : Int)⟩ := ⟨_, rfl⟩
        have HE2 := Lib.hid (HE.out.setO i him (o : Int) s hs)
        have HM2 := Lib.hid (HM.out.step (o := o) hp1 HQ.out h1 hil hL.2 hlt s hs)
        have HC := Lib.hid (HIH.out o _ bs (ms.set i s) sml HE2.out HM2.out HA.out)
        have hcc : wr.cell? ⟨G + 5, i * 2 + 1, none⟩ = some ((patC ms)[i * 2 + 1]'(by rw [patC_len]; omega)) := by
          have h := HE.out.mo.cellAt (i * 2 + 1) (by omega)
          rw [h]; exact List.getElem?_eq_getElem _
        have hfr := fun o => HE.out.mo.frozenAt o
        have mf := HE2.out.mf
        unfold mvV at mf
        generalize (patC ms)[i * 2 + 1]'_ = old at *
        clear hs
        go_wp2_with fail
        go_at_call 103
        refine HC.out.mono ?_
        rintro e w2 ⟨rfl, bs', sml', ms', hE', hM', hA'⟩
        have HE3 := Lib.hid hE'
        have HM3 := Lib.hid (hM'.back hp1 HQ.out h1 hlt)
        have HA3 : Hid (AccB n p xs stop ((c0 * q + (o + 1)) * q ^ dd) bs' sml') := hA'
        clear hE' hM' hA' HC HE HM HA HE2 HM2 mf hcc hfr
        go_wp2_with fail
        go_roundw
        case rel => exact ⟨o + 1, bs', ms', sml', by omega, by go_num, HE3, HM3, HA3⟩
        case measure => simp [RowKit.intOf]; omega
      · obtain rfl : o = q := by omega
        have ho1 : ¬ (o : Int) < p := by rw [HQ.out]; omega
        have HAe : Hid (AccB n p xs stop ((c0 + 1) * o ^ (dd + 1)) bs sml) := by show AccB _ _ _ _ _ _ _; rw [← HEnd.out]; exact HA.out
        go_wp2_with fail
        go_end0
        exact ⟨rfl, bs, sml, ms, HE.out, HM.out, HAe.out⟩
end Go.Proofs.Ytfgkfdkdjegaiaa
