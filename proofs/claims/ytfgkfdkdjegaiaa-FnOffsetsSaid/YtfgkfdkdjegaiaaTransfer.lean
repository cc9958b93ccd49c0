import Derived.Test.YtfgkfdkdjegaiaaMeeting
import Derived.Test.YtfgkfdkdjegaiaaMk03
import Derived.OrdersHeld
import Derived.Deep.RegionHeld
import Derived.Deep.RegionLaw
import Derived.Deep.DeepCutAuto
namespace Go.Proofs.Ytfgkfdkdjegaiaa
open Go.RowKit
set_option linter.unusedVariables false
set_option linter.unusedSimpArgs false

theorem fst_zero {s : Int} {st : List Int} (h : 0 < st.length) : (s == st[0]) = decide (fstIdx s st = 0) := by
  by_cases e : s = st[0]
  · have h1 : fstIdx s st = 0 := fstIdx_hit 0 h e.symm (by simp)
    rw [show decide (fstIdx s st = 0) = true from decide_eq_true h1]; exact beq_iff_eq.2 e
  · have h1 : ¬ fstIdx s st = 0 := fun h1 => by
      have hm : s ∈ st := by
        by_cases hm : s ∈ st
        · exact hm
        · rw [fstIdx_none hm] at h1; omega
      obtain ⟨k, hk, hkl, hg, _⟩ := fstIdx_get s st hm
      have : k = 0 := by omega
      subst this; exact e hg.symm
    simp [h1, e]
theorem fst_end {s : Int} {st : List Int} (h : 0 < st.length) (hn : st.Nodup) : (s == st[st.length - 1]) = decide (fstIdx s st = (st.length : Int) - 1) := by
  by_cases e : s = st[st.length - 1]
  · have h1 := (nodup_first st).1 hn (st.length - 1) (by omega)
    rw [← e] at h1
    have h2 : fstIdx s st = (st.length : Int) - 1 := by omega
    rw [show decide (fstIdx s st = (st.length : Int) - 1) = true from decide_eq_true h2]; exact beq_iff_eq.2 e
  · have h1 : ¬ fstIdx s st = (st.length : Int) - 1 := fun h1 => by
      have hm : s ∈ st := by
        by_cases hm : s ∈ st
        · exact hm
        · rw [fstIdx_none hm] at h1; omega
      obtain ⟨k, hk, hkl, hg, _⟩ := fstIdx_get s st hm
      have : k = st.length - 1 := by omega
      subst this; exact e hg.symm
    simp [h1, e]
theorem twF_no {n : NetD} {p : Int} {xs : List PatternD} {a b stop wk : Int} (h : twB n p xs a b stop wk = false) : twF n p xs a b stop wk = 0 := by unfold twF; rw [h]; rfl
theorem twF_yes {n : NetD} {p : Int} {xs : List PatternD} {a b stop wk : Int} (h : twB n p xs a b stop wk = true) : twF n p xs a b stop wk = wk + twD (restI n p (pt xs a) stop) wk (restI n p (pt xs b) stop) p := by unfold twF; rw [h]; rfl
def TwOk (n : NetD) (p : Int) (xs : List PatternD) (a b stop wk : Int) : Prop :=
  mtB n p xs a b = true ∧ (0 ≤ stop ∧ stop < (n.stops.length : Int)) ∧ a ≠ b ∧ (0 ≤ wk ∧ wk ≤ 60) ∧ (1 ≤ fstIdx stop (lnI n (pt xs a).line).stops ∧ 0 ≤ fstIdx stop (lnI n (pt xs b).line).stops ∧ fstIdx stop (lnI n (pt xs b).line).stops ≠ ((lnI n (pt xs b).line).stops.length : Int) - 1)
theorem twB_iff {n : NetD} {p : Int} {xs : List PatternD} {a b stop wk : Int} : twB n p xs a b stop wk = true ↔ TwOk n p xs a b stop wk := by
  unfold twB TwOk; simp only [Bool.and_eq_true, decide_eq_true_eq]
theorem twB_no {n : NetD} {p : Int} {xs : List PatternD} {a b stop wk : Int} (h : ¬ TwOk n p xs a b stop wk) : twB n p xs a b stop wk = false := by
  cases hb : twB n p xs a b stop wk with
  | false => rfl
  | true => exact absurd (twB_iff.1 hb) h

set_option maxRecDepth 100000 in
set_option maxHeartbeats 4000000 in
theorem isFirst_any (v : Value) (l : LineD) (stop : Int) (w : World) (hr : LineV w v l) (h0 : 0 < l.stops.length) (hl : l.stops.length ≤ 6) (hn : l.stops.Nodup) :
    Calls Try.prog 79 #[v, .int .i64 stop] w fun e w' => e = .returned (.bool (decide (fstIdx stop l.stops = 0))) ∧ Below w.heap.size w w' := by
  obtain ⟨sv, rv, rfl, hs, -⟩ := hr
  obtain ⟨a, c, rfl, hc, hm, HC⟩ := ints_open hs
  have HV := Lib.hid (fst_zero (s := stop) h0)
  obtain ⟨b, off, rfl, hbl, hcx⟩ := HC.out 0 h0
  rw [Nat.add_zero] at hcx
  have h1 : (0 : Int) < (l.stops.length : Int) := by omega
  clear HC hs hn
  have HX : Hid (∀ x, l.stops[0] = x → (stop == x) = decide (fstIdx stop l.stops = 0)) := fun x hx => by rw [← hx]; exact HV.out
  generalize hxx : l.stops[0] = x at *
  have HX := Lib.hid (HX.out x rfl)
  clear HV hxx
  go_enter Try.func79, Try.ntmps79
  go_wp2_with fail
  go_ret
  exact ⟨ret_bool HX.out, (Below.refl _ _).alloc (Nat.le_refl _) _⟩

set_option maxRecDepth 100000 in
set_option maxHeartbeats 4000000 in
theorem isLast_any (v : Value) (l : LineD) (stop : Int) (w : World) (hr : LineV w v l) (h0 : 0 < l.stops.length) (hl : l.stops.length ≤ 6) (hn : l.stops.Nodup) :
    Calls Try.prog 80 #[v, .int .i64 stop] w fun e w' => e = .returned (.bool (decide (fstIdx stop l.stops = (l.stops.length : Int) - 1))) ∧ Below w.heap.size w w' := by
  obtain ⟨sv, rv, rfl, hs, -⟩ := hr
  obtain ⟨a, c, rfl, hc, hm, HC⟩ := ints_open hs
  have HV := Lib.hid (fst_end (s := stop) h0 hn)
  obtain ⟨b, off, rfl, hbl, hcx⟩ := HC.out (l.stops.length - 1) (by omega)
  obtain ⟨j, hj⟩ : ∃ j, l.stops.length - 1 = j := ⟨_, rfl⟩
  have hwl : IntKind.i64.wrap ((l.stops.length : Int) - 1) = (j : Int) := by rw [IntWalk.i64_in _ (by omega)]; omega
  have hj0 : (0 : Int) ≤ (j : Int) := by omega
  have hj1 : (j : Int) < (l.stops.length : Int) := by omega
  simp only [hj] at hcx HV
  clear HC hs hn
  have HX : Hid (∀ x, l.stops[j] = x → (stop == x) = decide (fstIdx stop l.stops = (l.stops.length : Int) - 1)) := fun x hx => by rw [← hx]; exact HV.out
  generalize hxx : l.stops[j] = x at *
  have HX := Lib.hid (HX.out x rfl)
  clear HV hxx
  go_enter Try.func80, Try.ntmps80
  go_wp2_with fail
  go_ret
  exact ⟨ret_bool HX.out, (Below.refl _ _).alloc (Nat.le_refl _) _⟩

theorem keepT6 {W w w' : World} {p0 p1 p2 p3 p4 p5 : Addr} {x0 x1 x2 x3 x4 x5 : Value} (hb : Below w.heap.size w w') (h : w.cell? p0 = some x0 ∧ w.cell? p1 = some x1 ∧ w.cell? p2 = some x2 ∧ w.cell? p3 = some x3 ∧ w.cell? p4 = some x4 ∧ w.cell? p5 = some x5 ∧ Below W.heap.size W w) :
    w'.cell? p0 = some x0 ∧ w'.cell? p1 = some x1 ∧ w'.cell? p2 = some x2 ∧ w'.cell? p3 = some x3 ∧ w'.cell? p4 = some x4 ∧ w'.cell? p5 = some x5 ∧ Below W.heap.size W w' := keepR6 hb h
theorem belT6 {W w : World} {p0 p1 p2 p3 p4 p5 : Addr} {x0 x1 x2 x3 x4 x5 : Value} (h : w.cell? p0 = some x0 ∧ w.cell? p1 = some x1 ∧ w.cell? p2 = some x2 ∧ w.cell? p3 = some x3 ∧ w.cell? p4 = some x4 ∧ w.cell? p5 = some x5 ∧ Below W.heap.size W w) : Below W.heap.size W w := belR6 h

set_option maxRecDepth 100000 in
set_option maxHeartbeats 4000000 in
theorem implTransfer_any (nv lv : Value) (n : NetD) (p : Int) (xs : List PatternD) (a b stop wk : Int) (w : World) (hr : NetAt w nv n) (hw : PatternsAt w lv xs) (hf : NetFits n) (hs : NetSmall n) (hxs : PatternsSmall xs) (hst : (Lit.int .i64 stop).wf = true) :
    Calls Try.prog 32 #[nv, .int .i64 p, lv, .int .i64 a, .int .i64 b, .int .i64 stop, .int .i64 wk] w fun e w' => e = .returned (.tuple #[.int .i64 (twF n p xs a b stop wk), .bool (twB n p xs a b stop wk)]) ∧ Below w.heap.size w w' := by
  have HG := Lib.hid (fun W (hW : Below w.heap.size w W) => hasPatterns_any nv lv n p xs a b W (hr.below rfl hW) (hw.below rfl hW) hf)
  have HRs := Lib.hid (fun (h : PatsGood n p xs) k (hk : k < xs.length) s W (hW : Below w.heap.size w W) => restOf_any nv n p xs[k] s W (hr.below rfl hW) h.1 h.2.1 (h.2.2.2 k hk))
  have HPt := Lib.hid hw
  have HNt := Lib.hid hr
  obtain ⟨a0, c, a', c', rfl, -, -⟩ := net_open hr
  obtain ⟨lbx, d, rfl⟩ := PatternS_open hw
  have hxs2 : xs.length ≤ 1048576 := hxs
  clear hr hw hf hs hxs
  cases hm : mtB n p xs a b with
  | false =>
    rw [hm] at HG
    have ht : twB n p xs a b stop wk = false := twB_no (fun h => by have h1 := h.1; rw [hm] at h1; exact Bool.noConfusion h1)
    rw [twF_no ht, ht]
    clear hm ht HRs HPt HNt
    go_enter Try.func32, Try.ntmps32
    go_wp2_with fail
    go_at_call 77
    refine (HG.out _ ((Below.refl _ _).alloc (Nat.le_refl _) _)).mono ?_
    rintro e w1 ⟨rfl, hb1⟩
    have HB1 : Hid (Below w.heap.size w w1 ∧ w.heap.size < w1.heap.size) := ⟨((Below.refl _ _).alloc (Nat.le_refl _) _).trans (hb1.mono (by simp)), by have := hb1.size; simp at this; omega⟩
    have p0 : w1.cell? ⟨w.heap.size, 0, none⟩ = some (.slice a0 n.stops.length c) := bkeep hb1 (by go_simp)
    have p1 : w1.cell? ⟨w.heap.size, 1, none⟩ = some (.slice a' n.lines.length c') := bkeep hb1 (by go_simp)
    clear hb1 HG
    go_wp2_with fail
    go_ret2
    exact ⟨rfl, HB1.out.1⟩
  | true =>
    rw [hm] at HG
    by_cases hab : a = b
    · have ht : twB n p xs a b stop wk = false := twB_no (fun h => h.2.2.1 hab)
      have he1 : (a == b) = true := by simp [hab]
      rw [twF_no ht, ht]
      clear hm ht HRs HPt HNt hab
      go_enter Try.func32, Try.ntmps32
      go_wp2_with fail
      go_at_call 77
      refine (HG.out _ ((Below.refl _ _).alloc (Nat.le_refl _) _)).mono ?_
      rintro e w1 ⟨rfl, hb1⟩
      have HB1 : Hid (Below w.heap.size w w1 ∧ w.heap.size < w1.heap.size) := ⟨((Below.refl _ _).alloc (Nat.le_refl _) _).trans (hb1.mono (by simp)), by have := hb1.size; simp at this; omega⟩
      have p0 : w1.cell? ⟨w.heap.size, 0, none⟩ = some (.slice a0 n.stops.length c) := bkeep hb1 (by go_simp)
      have p1 : w1.cell? ⟨w.heap.size, 1, none⟩ = some (.slice a' n.lines.length c') := bkeep hb1 (by go_simp)
      clear hb1 HG
      go_wp2_with fail
      go_ret2
      exact ⟨rfl, HB1.out.1⟩
    · have he1 : (a == b) = false := by simp [hab]
      by_cases hw0 : wk < 0
      · have ht : twB n p xs a b stop wk = false := twB_no (fun h => by have := h.2.2.2.1; omega)
        have hd0 : decide (wk < 0) = true := decide_eq_true hw0
        rw [twF_no ht, ht]
        clear hm ht HRs HPt HNt hab
        go_enter Try.func32, Try.ntmps32
        go_wp2_with fail
        go_at_call 77
        refine (HG.out _ ((Below.refl _ _).alloc (Nat.le_refl _) _)).mono ?_
        rintro e w1 ⟨rfl, hb1⟩
        have HB1 : Hid (Below w.heap.size w w1 ∧ w.heap.size < w1.heap.size) := ⟨((Below.refl _ _).alloc (Nat.le_refl _) _).trans (hb1.mono (by simp)), by have := hb1.size; simp at this; omega⟩
        have p0 : w1.cell? ⟨w.heap.size, 0, none⟩ = some (.slice a0 n.stops.length c) := bkeep hb1 (by go_simp)
        have p1 : w1.cell? ⟨w.heap.size, 1, none⟩ = some (.slice a' n.lines.length c') := bkeep hb1 (by go_simp)
        clear hb1 HG
        go_wp2_with fail
        go_ret2
        exact ⟨rfl, HB1.out.1⟩
      · have hd0 : decide (wk < 0) = false := decide_eq_false hw0
        by_cases hw1 : 60 < wk
        · have ht : twB n p xs a b stop wk = false := twB_no (fun h => by have := h.2.2.2.1; omega)
          have hd1 : decide ((60 : Int) < wk) = true := decide_eq_true hw1
          rw [twF_no ht, ht]
          clear hm ht HRs HPt HNt hab
          go_enter Try.func32, Try.ntmps32
          go_wp2_with fail
          go_at_call 77
          refine (HG.out _ ((Below.refl _ _).alloc (Nat.le_refl _) _)).mono ?_
          rintro e w1 ⟨rfl, hb1⟩
          have HB1 : Hid (Below w.heap.size w w1 ∧ w.heap.size < w1.heap.size) := ⟨((Below.refl _ _).alloc (Nat.le_refl _) _).trans (hb1.mono (by simp)), by have := hb1.size; simp at this; omega⟩
          have p0 : w1.cell? ⟨w.heap.size, 0, none⟩ = some (.slice a0 n.stops.length c) := bkeep hb1 (by go_simp)
          have p1 : w1.cell? ⟨w.heap.size, 1, none⟩ = some (.slice a' n.lines.length c') := bkeep hb1 (by go_simp)
          clear hb1 HG
          go_wp2_with fail
          go_ret2
          exact ⟨rfl, HB1.out.1⟩
        · have hd1 : decide ((60 : Int) < wk) = false := decide_eq_false hw1
          obtain ⟨hgood, ⟨ha0, ha1⟩, ⟨hb0, hb1⟩⟩ := mtB_iff hm
          obtain ⟨ka, rfl⟩ := Int.eq_ofNat_of_zero_le ha0
          obtain ⟨kb, rfl⟩ := Int.eq_ofNat_of_zero_le hb0
          have hka : ka < xs.length := by omega
          have hkb : kb < xs.length := by omega
          have hXa := hgood.2.2.2 ka hka
          have hXb := hgood.2.2.2 kb hkb
          obtain ⟨la, hla, hlal⟩ := pat_line hXa
          obtain ⟨lb, hlb, hlbl⟩ := pat_line hXb
          have hga := good_line hgood.1 la hlal
          have hgb := good_line hgood.1 lb hlbl
          have hp := hgood.2.1
          have HTw : Hid (TwOk n p xs ka kb stop wk ↔ ((0 ≤ stop ∧ stop < (n.stops.length : Int)) ∧ (ka : Int) ≠ kb ∧ (0 ≤ wk ∧ wk ≤ 60) ∧ (1 ≤ fstIdx stop n.lines[la].stops ∧ 0 ≤ fstIdx stop n.lines[lb].stops ∧ fstIdx stop n.lines[lb].stops ≠ (n.lines[lb].stops.length : Int) - 1))) := by
            show _ ↔ _
            unfold TwOk; rw [hm, pt_at hka, pt_at hkb, lnI_at hla hlal, lnI_at hlb hlbl]; simp only [true_and]
          have HTf : Hid (twB n p xs ka kb stop wk = true → twF n p xs ka kb stop wk = wk + twD (restI n p xs[ka] stop) wk (restI n p xs[kb] stop) p) := fun h => by rw [twF_yes h, pt_at hka, pt_at hkb]
          have HSt : Hid (0 ≤ fstIdx stop n.lines[la].stops → 0 ≤ stop ∧ stop < (n.stops.length : Int)) := fun h => by
            by_cases hm : stop ∈ n.lines[la].stops
            · exact hga.2.2.1 stop hm
            · rw [fstIdx_none hm] at h; omega
          have hNa : restI n p xs[ka] stop < 0 ↔ fstIdx stop n.lines[la].stops < 0 := by rw [rest_neg hp.1, lnI_at hla hlal]
          have hNb : restI n p xs[kb] stop < 0 ↔ fstIdx stop n.lines[lb].stops < 0 := by rw [rest_neg hp.1, lnI_at hlb hlbl]
          have hIa := rest_in (n := n) hp.1 xs[ka] stop
          have hIb := rest_in (n := n) hp.1 xs[kb] stop
          have HCa := Lib.hid (fun W hW => HRs.out hgood ka hka stop W hW)
          have HCb := Lib.hid (fun W hW => HRs.out hgood kb hkb stop W hW)
          obtain ⟨sb, so, sa0, sa1, ra0, ra1, rfl, hsb, xa0, xa1, xa2, hra, hrra⟩ := net_line HNt.out la hlal
          obtain ⟨_, _, sb0, sb1, rb0, rb1, he, -, xb0, xb1, xb2, hrb, hrrb⟩ := net_line HNt.out lb hlbl
          simp at he
          obtain ⟨rfl, rfl⟩ := he
          obtain ⟨g, go, rfl, hgl, ya0, ya1⟩ := pat_at HPt.out ka hka
          obtain ⟨_, _, he, -, yb0, yb1⟩ := pat_at HPt.out kb hkb
          simp at he
          obtain ⟨rfl, rfl⟩ := he
          have hLa : LineV w (.agg #[.string n.lines[la].name, .slice sa0 n.lines[la].stops.length sa1, .slice ra0 n.lines[la].runs.length ra1]) n.lines[la] := ⟨_, _, rfl, hra, hrra⟩
          have hLb : LineV w (.agg #[.string n.lines[lb].name, .slice sb0 n.lines[lb].stops.length sb1, .slice rb0 n.lines[lb].runs.length rb1]) n.lines[lb] := ⟨_, _, rfl, hrb, hrrb⟩
          have hka1 : (ka : Int) < (xs.length : Int) := by omega
          have hkb1 : (kb : Int) < (xs.length : Int) := by omega
          have hla1 : (la : Int) < (n.lines.length : Int) := by omega
          have hlb1 : (lb : Int) < (n.lines.length : Int) := by omega
          have hsal := hga.2.1
          have hsbl := hgb.2.1
          have HFi := Lib.hid (fun W (hW : Below w.heap.size w W) => isFirst_any _ n.lines[la] stop W (hLa.below rfl hW) (by omega) hsal.2.1 hga.2.2.2.1)
          have HLa := Lib.hid (fun W (hW : Below w.heap.size w W) => isLast_any _ n.lines[lb] stop W (hLb.below rfl hW) (by omega) hsbl.2.1 hgb.2.2.2.1)
          clear HRs HPt HNt hm hra hrra hrb hrrb hXa hXb hgood ha0 ha1 hb0 hb1 hga hgb hLa hLb
          generalize restI n p xs[ka] stop = rA at *
          generalize restI n p xs[kb] stop = rB at *
          generalize n.lines[la] = A at *
          generalize n.lines[lb] = B at *
          generalize xs[ka] = X at *
          generalize xs[kb] = Y at *
          obtain ⟨xl, xo⟩ := X
          obtain ⟨yl, yo⟩ := Y
          simp only at hla hlb
          subst hla
          subst hlb
          unfold patV at HCa HCb
          simp only at *
          by_cases hra : rA < 0
          · have ht : twB n p xs ka kb stop wk = false := twB_no (fun h => by have := (HTw.out.1 h).2.2.2; omega)
            rw [twF_no ht, ht]
            obtain ⟨vb, sbb, hvb⟩ : ∃ vb sbb, restT rB = .tuple #[.int .i64 vb, .bool sbb] := by unfold restT; split <;> exact ⟨_, _, rfl⟩
            rw [hvb] at HCb
            rw [restT_no hra] at HCa
            clear ht hvb HTw HTf HSt HFi HLa
            go_enter Try.func32, Try.ntmps32
            go_wp2_with fail
            go_at_call 77
            refine (HG.out _ ((Below.refl _ _).alloc (Nat.le_refl _) _)).mono ?_
            rintro e w1 ⟨rfl, hb1⟩
            have HB1 : Hid (Below w.heap.size w w1 ∧ w.heap.size < w1.heap.size) := ⟨((Below.refl _ _).alloc (Nat.le_refl _) _).trans (hb1.mono (by simp)), by have := hb1.size; simp at this; omega⟩
            have p0 : w1.cell? ⟨w.heap.size, 0, none⟩ = some (.slice a0 n.stops.length c) := bkeep hb1 (by go_simp)
            have p1 : w1.cell? ⟨w.heap.size, 1, none⟩ = some (.slice (some ⟨sb, so, none⟩) n.lines.length c') := bkeep hb1 (by go_simp)
            clear hb1 HG
            have ya0 := bkeep HB1.out.1 ya0
            have ya1 := bkeep HB1.out.1 ya1
            have yb0 := bkeep HB1.out.1 yb0
            have yb1 := bkeep HB1.out.1 yb1
            go_wp2_with fail
            go_region_held3 (fun w' => w'.cell? ⟨w.heap.size, 0, none⟩ = some (.slice a0 n.stops.length c) ∧ w'.cell? ⟨w.heap.size, 1, none⟩ = some (.slice (some ⟨sb, so, none⟩) n.lines.length c') ∧ w'.cell? ⟨g, go + ka * 2, none⟩ = some (.int .i64 (la : Int)) ∧ w'.cell? ⟨g, go + ka * 2 + 1, none⟩ = some (.int .i64 xo) ∧ w'.cell? ⟨g, go + kb * 2, none⟩ = some (.int .i64 (lb : Int)) ∧ w'.cell? ⟨g, go + kb * 2 + 1, none⟩ = some (.int .i64 yo) ∧ Below w1.heap.size w1 w')
              (first | (exact ⟨p0, p1, ya0, ya1, yb0, yb1, (Below.refl _ _).drew⟩) | (exact keepT6 hb (by assumption)))
              ((go_at_call 78; refine (HCa.out _ (HB1.out.1.trans ((belT6 (by assumption)).mono HB1.out.1.size))).mono ?_; rintro e w' ⟨rfl, hb⟩))
            obtain ⟨p0, p1, ya0, ya1, yb0, yb1, qb⟩ := (by assumption : _ ∧ _)
            rename World => w2
            have HBa : Hid (Below w.heap.size w w2 ∧ w.heap.size < w2.heap.size) := ⟨HB1.out.1.trans (qb.mono HB1.out.1.size), by have := qb.size; have := HB1.out.2; omega⟩
            clear qb HB1 HCa
            go_wp2_with fail
            go_region_held3 (fun w' => w'.cell? ⟨w.heap.size, 0, none⟩ = some (.slice a0 n.stops.length c) ∧ w'.cell? ⟨w.heap.size, 1, none⟩ = some (.slice (some ⟨sb, so, none⟩) n.lines.length c') ∧ w'.cell? ⟨g, go + ka * 2, none⟩ = some (.int .i64 (la : Int)) ∧ w'.cell? ⟨g, go + ka * 2 + 1, none⟩ = some (.int .i64 xo) ∧ w'.cell? ⟨g, go + kb * 2, none⟩ = some (.int .i64 (lb : Int)) ∧ w'.cell? ⟨g, go + kb * 2 + 1, none⟩ = some (.int .i64 yo) ∧ Below w2.heap.size w2 w')
              (first | (exact ⟨p0, p1, ya0, ya1, yb0, yb1, (Below.refl _ _).drew⟩) | (exact keepT6 hb (by assumption)))
              ((go_at_call 78; refine (HCb.out _ (HBa.out.1.trans ((belT6 (by assumption)).mono HBa.out.1.size))).mono ?_; rintro e w' ⟨rfl, hb⟩))
            obtain ⟨p0, p1, ya0, ya1, yb0, yb1, qb⟩ := (by assumption : _ ∧ _)
            rename World => w3
            have HBb : Hid (Below w.heap.size w w3 ∧ w.heap.size < w3.heap.size) := ⟨HBa.out.1.trans (qb.mono HBa.out.1.size), by have := qb.size; have := HBa.out.2; omega⟩
            clear qb HBa HCb
            have xa0 := bkeep HBb.out.1 xa0
            have xa1 := bkeep HBb.out.1 xa1
            have xa2 := bkeep HBb.out.1 xa2
            have xb0 := bkeep HBb.out.1 xb0
            have xb1 := bkeep HBb.out.1 xb1
            have xb2 := bkeep HBb.out.1 xb2
            go_wp2_with fail
            have w3b : Below w3.heap.size w3 w3.drew := (Below.refl _ _).drew
            refine wp_region_held_drew (S := (fun w' => w'.cell? ⟨w.heap.size, 1, none⟩ = some (.slice (some ⟨sb, so, none⟩) n.lines.length c') ∧ w'.cell? ⟨g, go + ka * 2, none⟩ = some (.int .i64 (la : Int)) ∧ w'.cell? ⟨g, go + kb * 2, none⟩ = some (.int .i64 (lb : Int)) ∧ w'.cell? ⟨sb, so + la * 3, none⟩ = some (.string A.name) ∧ w'.cell? ⟨sb, so + la * 3 + 1, none⟩ = some (.slice sa0 A.stops.length sa1) ∧ w'.cell? ⟨sb, so + la * 3 + 2, none⟩ = some (.slice ra0 A.runs.length ra1) ∧ w'.cell? ⟨sb, so + lb * 3, none⟩ = some (.string B.name) ∧ w'.cell? ⟨sb, so + lb * 3 + 1, none⟩ = some (.slice sb0 B.stops.length sb1) ∧ w'.cell? ⟨sb, so + lb * 3 + 2, none⟩ = some (.slice rb0 B.runs.length rb1) ∧ Below w3.heap.size w3 w')) (by kernel_rfl) ?_ (fun hHeld => ?_)
            · exact ⟨p1, ya0, yb0, xa0, xa1, xa2, xb0, xb1, xb2, w3b⟩
            refine wpAnyH_take (i := 0) (v := ?_) (by simp only [List.getElem?_toArray, List.getElem?_cons_zero]; rfl) (by kernel_rfl) (by kernel_rfl) (by kernel_rfl) (by exact fun _ _ _ h => h) (Or.inl ⟨by rfl, ?_⟩) (by assumption) ?_
            rotate_left
            · intro w' hSw; (try dsimp only at hSw); obtain ⟨e0, e1, e2, e3, e4, e5, e6, e7, e8, _⟩ := hSw
              go_simp; try with_reducible rfl
            try simp only [Act.put, List.setIfInBounds_toArray, List.set_cons_zero, List.set_cons_succ]
            refine wpAnyH_take (i := 1) (v := ?_) (by simp only [List.getElem?_toArray, List.getElem?_cons_succ, List.getElem?_cons_zero]; rfl) (by kernel_rfl) (by kernel_rfl) (by kernel_rfl) (by exact fun _ _ _ h => h) (Or.inl ⟨by rfl, ?_⟩) (by assumption) ?_
            rotate_left
            · intro w' hSw; (try dsimp only at hSw); obtain ⟨e0, e1, e2, e3, e4, e5, e6, e7, e8, _⟩ := hSw
              go_simp; try with_reducible rfl
            try simp only [Act.put, List.setIfInBounds_toArray, List.set_cons_zero, List.set_cons_succ]
            refine wpAnyH_take (i := 2) (v := ?_) (by simp only [List.getElem?_toArray, List.getElem?_cons_succ, List.getElem?_cons_zero]; rfl) (by kernel_rfl) (by kernel_rfl) (by kernel_rfl) (by exact fun _ _ _ h => h) (Or.inl ⟨by rfl, ?_⟩) (by assumption) ?_
            rotate_left
            · intro w' hSw; (try dsimp only at hSw); obtain ⟨e0, e1, e2, e3, e4, e5, e6, e7, e8, _⟩ := hSw
              go_simp; try with_reducible rfl
            try simp only [Act.put, List.setIfInBounds_toArray, List.set_cons_zero, List.set_cons_succ]
            refine wpAnyH_take (i := 3) (v := undef) (by simp only [List.getElem?_toArray, List.getElem?_cons_succ, List.getElem?_cons_zero]; rfl) (by kernel_rfl) (by kernel_rfl) (by kernel_rfl) (by exact fun _ _ _ h => h) (Or.inr ⟨by rfl, rfl⟩) (by assumption) ?_
            try simp only [Act.put, List.setIfInBounds_toArray, List.set_cons_zero, List.set_cons_succ]
            refine wpAnyH_take (i := 4) (v := undef) (by simp only [List.getElem?_toArray, List.getElem?_cons_succ, List.getElem?_cons_zero]; rfl) (by kernel_rfl) (by kernel_rfl) (by kernel_rfl) (by exact fun _ _ _ h => h) (Or.inr ⟨by rfl, rfl⟩) (by assumption) ?_
            try simp only [Act.put, List.setIfInBounds_toArray, List.set_cons_zero, List.set_cons_succ]
            refine wpAnyH_take (i := 5) (v := ?_) (by simp only [List.getElem?_toArray, List.getElem?_cons_succ, List.getElem?_cons_zero]; rfl) (by kernel_rfl) (by kernel_rfl) (by kernel_rfl) (by exact fun _ _ _ h => h) (Or.inl ⟨by rfl, ?_⟩) (by assumption) ?_
            rotate_left
            · intro w' hSw; (try dsimp only at hSw); obtain ⟨e0, e1, e2, e3, e4, e5, e6, e7, e8, _⟩ := hSw
              go_simp; try with_reducible rfl
            try simp only [Act.put, List.setIfInBounds_toArray, List.set_cons_zero, List.set_cons_succ]
            refine wpAnyH_take (i := 6) (v := ?_) (by simp only [List.getElem?_toArray, List.getElem?_cons_succ, List.getElem?_cons_zero]; rfl) (by kernel_rfl) (by kernel_rfl) (by kernel_rfl) (by exact fun _ _ _ h => h) (Or.inl ⟨by rfl, ?_⟩) (by assumption) ?_
            rotate_left
            · intro w' hSw; (try dsimp only at hSw); obtain ⟨e0, e1, e2, e3, e4, e5, e6, e7, e8, _⟩ := hSw
              go_simp; try with_reducible rfl
            try simp only [Act.put, List.setIfInBounds_toArray, List.set_cons_zero, List.set_cons_succ]
            refine wpAnyH_take (i := 7) (v := undef) (by simp only [List.getElem?_toArray, List.getElem?_cons_succ, List.getElem?_cons_zero]; rfl) (by kernel_rfl) (by kernel_rfl) (by kernel_rfl) (by exact fun _ _ _ h => h) (Or.inr ⟨by rfl, rfl⟩) (by assumption) ?_
            try simp only [Act.put, List.setIfInBounds_toArray, List.set_cons_zero, List.set_cons_succ]
            refine wpAnyH_take (i := 8) (v := undef) (by simp only [List.getElem?_toArray, List.getElem?_cons_succ, List.getElem?_cons_zero]; rfl) (by kernel_rfl) (by kernel_rfl) (by kernel_rfl) (by exact fun _ _ _ h => h) (Or.inr ⟨by rfl, rfl⟩) (by assumption) ?_
            try simp only [Act.put, List.setIfInBounds_toArray, List.set_cons_zero, List.set_cons_succ]
            refine wpAnyH_take (i := 9) (v := undef) (by simp only [List.getElem?_toArray, List.getElem?_cons_succ, List.getElem?_cons_zero]; rfl) (by kernel_rfl) (by kernel_rfl) (by kernel_rfl) (by exact fun _ _ _ h => h) (Or.inr ⟨by rfl, rfl⟩) (by assumption) ?_
            try simp only [Act.put, List.setIfInBounds_toArray, List.set_cons_zero, List.set_cons_succ]
            refine wpAnyH_take (i := 10) (v := undef) (by simp only [List.getElem?_toArray, List.getElem?_cons_succ, List.getElem?_cons_zero]; rfl) (by kernel_rfl) (by kernel_rfl) (by kernel_rfl) (by exact fun _ _ _ h => h) (Or.inr ⟨by rfl, rfl⟩) (by assumption) ?_
            try simp only [Act.put, List.setIfInBounds_toArray, List.set_cons_zero, List.set_cons_succ]
            refine wpAnyH_take (i := 11) (v := undef) (by simp only [List.getElem?_toArray, List.getElem?_cons_succ, List.getElem?_cons_zero]; rfl) (by kernel_rfl) (by kernel_rfl) (by kernel_rfl) (by exact fun _ _ _ h => h) (Or.inr ⟨by rfl, rfl⟩) (by assumption) ?_
            try simp only [Act.put, List.setIfInBounds_toArray, List.set_cons_zero, List.set_cons_succ]
            refine wpAnyH_take (i := 12) (v := undef) (by simp only [List.getElem?_toArray, List.getElem?_cons_succ, List.getElem?_cons_zero]; rfl) (by kernel_rfl) (by kernel_rfl) (by kernel_rfl) (by exact fun _ _ _ h => h) (Or.inr ⟨by rfl, rfl⟩) (by assumption) ?_
            try simp only [Act.put, List.setIfInBounds_toArray, List.set_cons_zero, List.set_cons_succ]
            refine wpAnyH_take (i := 13) (v := undef) (by simp only [List.getElem?_toArray, List.getElem?_cons_succ, List.getElem?_cons_zero]; rfl) (by kernel_rfl) (by kernel_rfl) (by kernel_rfl) (by exact fun _ _ _ h => h) (Or.inr ⟨by rfl, rfl⟩) (by assumption) ?_
            try simp only [Act.put, List.setIfInBounds_toArray, List.set_cons_zero, List.set_cons_succ]
            refine wpAnyH_take (i := 14) (v := undef) (by simp only [List.getElem?_toArray, List.getElem?_cons_succ, List.getElem?_cons_zero]; rfl) (by kernel_rfl) (by kernel_rfl) (by kernel_rfl) (by exact fun _ _ _ h => h) (Or.inr ⟨by rfl, rfl⟩) (by assumption) ?_
            try simp only [Act.put, List.setIfInBounds_toArray, List.set_cons_zero, List.set_cons_succ]
            refine wpAnyH_take (i := 15) (v := undef) (by simp only [List.getElem?_toArray, List.getElem?_cons_succ, List.getElem?_cons_zero]; rfl) (by kernel_rfl) (by kernel_rfl) (by kernel_rfl) (by exact fun _ _ _ h => h) (Or.inr ⟨by rfl, rfl⟩) (by assumption) ?_
            try simp only [Act.put, List.setIfInBounds_toArray, List.set_cons_zero, List.set_cons_succ]
            refine wpAnyH_take (i := 16) (v := undef) (by simp only [List.getElem?_toArray, List.getElem?_cons_succ, List.getElem?_cons_zero]; rfl) (by kernel_rfl) (by kernel_rfl) (by kernel_rfl) (by exact fun _ _ _ h => h) (Or.inr ⟨by rfl, rfl⟩) (by assumption) ?_
            try simp only [Act.put, List.setIfInBounds_toArray, List.set_cons_zero, List.set_cons_succ]
            refine wpAnyH_take (i := 17) (v := undef) (by simp only [List.getElem?_toArray, List.getElem?_cons_succ, List.getElem?_cons_zero]; rfl) (by kernel_rfl) (by kernel_rfl) (by kernel_rfl) (by exact fun _ _ _ h => h) (Or.inr ⟨by rfl, rfl⟩) (by assumption) ?_
            try simp only [Act.put, List.setIfInBounds_toArray, List.set_cons_zero, List.set_cons_succ]
            refine wpAnyH_take (i := 18) (v := ?_) (by simp only [List.getElem?_toArray, List.getElem?_cons_succ, List.getElem?_cons_zero]; rfl) (by kernel_rfl) (by kernel_rfl) (by kernel_rfl) (by exact fun _ _ _ h => h) (Or.inl ⟨by rfl, ?_⟩) (by assumption) ?_
            rotate_left
            · intro w' hSw; (try dsimp only at hSw); obtain ⟨e0, e1, e2, e3, e4, e5, e6, e7, e8, _⟩ := hSw
              go_simp; try with_reducible rfl
            try simp only [Act.put, List.setIfInBounds_toArray, List.set_cons_zero, List.set_cons_succ]
            refine wpAnyH_take (i := 19) (v := ?_) (by simp only [List.getElem?_toArray, List.getElem?_cons_succ, List.getElem?_cons_zero]; rfl) (by kernel_rfl) (by kernel_rfl) (by kernel_rfl) (by exact fun _ _ _ h => h) (Or.inl ⟨by rfl, ?_⟩) (by assumption) ?_
            rotate_left
            · intro w' hSw; (try dsimp only at hSw); obtain ⟨e0, e1, e2, e3, e4, e5, e6, e7, e8, _⟩ := hSw
              go_simp; try with_reducible rfl
            try simp only [Act.put, List.setIfInBounds_toArray, List.set_cons_zero, List.set_cons_succ]
            refine wpAnyH_take (i := 20) (v := undef) (by simp only [List.getElem?_toArray, List.getElem?_cons_succ, List.getElem?_cons_zero]; rfl) (by kernel_rfl) (by kernel_rfl) (by kernel_rfl) (by exact fun _ _ _ h => h) (Or.inr ⟨by rfl, rfl⟩) (by assumption) ?_
            try simp only [Act.put, List.setIfInBounds_toArray, List.set_cons_zero, List.set_cons_succ]
            refine wpAnyH_take (i := 21) (v := undef) (by simp only [List.getElem?_toArray, List.getElem?_cons_succ, List.getElem?_cons_zero]; rfl) (by kernel_rfl) (by kernel_rfl) (by kernel_rfl) (by exact fun _ _ _ h => h) (Or.inr ⟨by rfl, rfl⟩) (by assumption) ?_
            try simp only [Act.put, List.setIfInBounds_toArray, List.set_cons_zero, List.set_cons_succ]
            refine wpAnyH_take (i := 22) (v := undef) (by simp only [List.getElem?_toArray, List.getElem?_cons_succ, List.getElem?_cons_zero]; rfl) (by kernel_rfl) (by kernel_rfl) (by kernel_rfl) (by exact fun _ _ _ h => h) (Or.inr ⟨by rfl, rfl⟩) (by assumption) ?_
            try simp only [Act.put, List.setIfInBounds_toArray, List.set_cons_zero, List.set_cons_succ]
            refine wpAnyH_take (i := 23) (v := undef) (by simp only [List.getElem?_toArray, List.getElem?_cons_succ, List.getElem?_cons_zero]; rfl) (by kernel_rfl) (by kernel_rfl) (by kernel_rfl) (by exact fun _ _ _ h => h) (Or.inr ⟨by rfl, rfl⟩) (by assumption) ?_
            try simp only [Act.put, List.setIfInBounds_toArray, List.set_cons_zero, List.set_cons_succ]
            refine wpAnyH_take (i := 24) (v := undef) (by simp only [List.getElem?_toArray, List.getElem?_cons_succ, List.getElem?_cons_zero]; rfl) (by kernel_rfl) (by kernel_rfl) (by kernel_rfl) (by exact fun _ _ _ h => h) (Or.inr ⟨by rfl, rfl⟩) (by assumption) ?_
            try simp only [Act.put, List.setIfInBounds_toArray, List.set_cons_zero, List.set_cons_succ]
            refine wpAnyH_take (i := 25) (v := undef) (by simp only [List.getElem?_toArray, List.getElem?_cons_succ, List.getElem?_cons_zero]; rfl) (by kernel_rfl) (by kernel_rfl) (by kernel_rfl) (by exact fun _ _ _ h => h) (Or.inr ⟨by rfl, rfl⟩) (by assumption) ?_
            try simp only [Act.put, List.setIfInBounds_toArray, List.set_cons_zero, List.set_cons_succ]
            refine wpAnyH_take (i := 26) (v := undef) (by simp only [List.getElem?_toArray, List.getElem?_cons_succ, List.getElem?_cons_zero]; rfl) (by kernel_rfl) (by kernel_rfl) (by kernel_rfl) (by exact fun _ _ _ h => h) (Or.inr ⟨by rfl, rfl⟩) (by assumption) ?_
            try simp only [Act.put, List.setIfInBounds_toArray, List.set_cons_zero, List.set_cons_succ]
            refine wpAnyH_take (i := 27) (v := undef) (by simp only [List.getElem?_toArray, List.getElem?_cons_succ, List.getElem?_cons_zero]; rfl) (by kernel_rfl) (by kernel_rfl) (by kernel_rfl) (by exact fun _ _ _ h => h) (Or.inr ⟨by rfl, rfl⟩) (by assumption) ?_
            try simp only [Act.put, List.setIfInBounds_toArray, List.set_cons_zero, List.set_cons_succ]
            refine wpAnyH_take (i := 28) (v := undef) (by simp only [List.getElem?_toArray, List.getElem?_cons_succ, List.getElem?_cons_zero]; rfl) (by kernel_rfl) (by kernel_rfl) (by kernel_rfl) (by exact fun _ _ _ h => h) (Or.inr ⟨by rfl, rfl⟩) (by assumption) ?_
            try simp only [Act.put, List.setIfInBounds_toArray, List.set_cons_zero, List.set_cons_succ]
            refine wpAnyH_take (i := 29) (v := undef) (by simp only [List.getElem?_toArray, List.getElem?_cons_succ, List.getElem?_cons_zero]; rfl) (by kernel_rfl) (by kernel_rfl) (by kernel_rfl) (by exact fun _ _ _ h => h) (Or.inr ⟨by rfl, rfl⟩) (by assumption) ?_
            try simp only [Act.put, List.setIfInBounds_toArray, List.set_cons_zero, List.set_cons_succ]
            refine wpAnyH_take (i := 30) (v := undef) (by simp only [List.getElem?_toArray, List.getElem?_cons_succ, List.getElem?_cons_zero]; rfl) (by kernel_rfl) (by kernel_rfl) (by kernel_rfl) (by exact fun _ _ _ h => h) (Or.inr ⟨by rfl, rfl⟩) (by assumption) ?_
            try simp only [Act.put, List.setIfInBounds_toArray, List.set_cons_zero, List.set_cons_succ]
            refine wpAnyH_take (i := 31) (v := ?_) (by simp only [List.getElem?_toArray, List.getElem?_cons_succ, List.getElem?_cons_zero]; rfl) (by kernel_rfl) (by kernel_rfl) (by kernel_rfl) (by exact fun _ _ _ h => h) (Or.inl ⟨by rfl, ?_⟩) (by assumption) ?_
            rotate_left
            · intro w' hSw; (try dsimp only at hSw); obtain ⟨e0, e1, e2, e3, e4, e5, e6, e7, e8, _⟩ := hSw
              go_simp; try with_reducible rfl
            try simp only [Act.put, List.setIfInBounds_toArray, List.set_cons_zero, List.set_cons_succ]
            refine wpAnyH_done (by kernel_rfl) ?_ _
            have HBf : Hid (Below w.heap.size w w3.drew) := HBb.out.1.trans ((w3b).mono HBb.out.1.size)
            go_wp2_with fail
            go_ret2
            exact ⟨rfl, HBf.out⟩
          · by_cases hrb : rB < 0
            · have ht : twB n p xs ka kb stop wk = false := twB_no (fun h => by have := (HTw.out.1 h).2.2.2; omega)
              rw [twF_no ht, ht]
              rw [restT_no hrb] at HCb
              rw [restT_yes (by omega)] at HCa
              clear ht HTw HTf HSt HFi HLa
              go_enter Try.func32, Try.ntmps32
              go_wp2_with fail
              go_at_call 77
              refine (HG.out _ ((Below.refl _ _).alloc (Nat.le_refl _) _)).mono ?_
              rintro e w1 ⟨rfl, hb1⟩
              have HB1 : Hid (Below w.heap.size w w1 ∧ w.heap.size < w1.heap.size) := ⟨((Below.refl _ _).alloc (Nat.le_refl _) _).trans (hb1.mono (by simp)), by have := hb1.size; simp at this; omega⟩
              have p0 : w1.cell? ⟨w.heap.size, 0, none⟩ = some (.slice a0 n.stops.length c) := bkeep hb1 (by go_simp)
              have p1 : w1.cell? ⟨w.heap.size, 1, none⟩ = some (.slice (some ⟨sb, so, none⟩) n.lines.length c') := bkeep hb1 (by go_simp)
              clear hb1 HG
              have ya0 := bkeep HB1.out.1 ya0
              have ya1 := bkeep HB1.out.1 ya1
              have yb0 := bkeep HB1.out.1 yb0
              have yb1 := bkeep HB1.out.1 yb1
              go_wp2_with fail
              go_region_held3 (fun w' => w'.cell? ⟨w.heap.size, 0, none⟩ = some (.slice a0 n.stops.length c) ∧ w'.cell? ⟨w.heap.size, 1, none⟩ = some (.slice (some ⟨sb, so, none⟩) n.lines.length c') ∧ w'.cell? ⟨g, go + ka * 2, none⟩ = some (.int .i64 (la : Int)) ∧ w'.cell? ⟨g, go + ka * 2 + 1, none⟩ = some (.int .i64 xo) ∧ w'.cell? ⟨g, go + kb * 2, none⟩ = some (.int .i64 (lb : Int)) ∧ w'.cell? ⟨g, go + kb * 2 + 1, none⟩ = some (.int .i64 yo) ∧ Below w1.heap.size w1 w')
                (first | (exact ⟨p0, p1, ya0, ya1, yb0, yb1, (Below.refl _ _).drew⟩) | (exact keepT6 hb (by assumption)))
                ((go_at_call 78; refine (HCa.out _ (HB1.out.1.trans ((belT6 (by assumption)).mono HB1.out.1.size))).mono ?_; rintro e w' ⟨rfl, hb⟩))
              obtain ⟨p0, p1, ya0, ya1, yb0, yb1, qb⟩ := (by assumption : _ ∧ _)
              rename World => w2
              have HBa : Hid (Below w.heap.size w w2 ∧ w.heap.size < w2.heap.size) := ⟨HB1.out.1.trans (qb.mono HB1.out.1.size), by have := qb.size; have := HB1.out.2; omega⟩
              clear qb HB1 HCa
              go_wp2_with fail
              go_region_held3 (fun w' => w'.cell? ⟨w.heap.size, 0, none⟩ = some (.slice a0 n.stops.length c) ∧ w'.cell? ⟨w.heap.size, 1, none⟩ = some (.slice (some ⟨sb, so, none⟩) n.lines.length c') ∧ w'.cell? ⟨g, go + ka * 2, none⟩ = some (.int .i64 (la : Int)) ∧ w'.cell? ⟨g, go + ka * 2 + 1, none⟩ = some (.int .i64 xo) ∧ w'.cell? ⟨g, go + kb * 2, none⟩ = some (.int .i64 (lb : Int)) ∧ w'.cell? ⟨g, go + kb * 2 + 1, none⟩ = some (.int .i64 yo) ∧ Below w2.heap.size w2 w')
                (first | (exact ⟨p0, p1, ya0, ya1, yb0, yb1, (Below.refl _ _).drew⟩) | (exact keepT6 hb (by assumption)))
                ((go_at_call 78; refine (HCb.out _ (HBa.out.1.trans ((belT6 (by assumption)).mono HBa.out.1.size))).mono ?_; rintro e w' ⟨rfl, hb⟩))
              obtain ⟨p0, p1, ya0, ya1, yb0, yb1, qb⟩ := (by assumption : _ ∧ _)
              rename World => w3
              have HBb : Hid (Below w.heap.size w w3 ∧ w.heap.size < w3.heap.size) := ⟨HBa.out.1.trans (qb.mono HBa.out.1.size), by have := qb.size; have := HBa.out.2; omega⟩
              clear qb HBa HCb
              have xa0 := bkeep HBb.out.1 xa0
              have xa1 := bkeep HBb.out.1 xa1
              have xa2 := bkeep HBb.out.1 xa2
              have xb0 := bkeep HBb.out.1 xb0
              have xb1 := bkeep HBb.out.1 xb1
              have xb2 := bkeep HBb.out.1 xb2
              go_wp2_with fail
              have w3b : Below w3.heap.size w3 w3.drew := (Below.refl _ _).drew
              refine wp_region_held_drew (S := (fun w' => w'.cell? ⟨w.heap.size, 1, none⟩ = some (.slice (some ⟨sb, so, none⟩) n.lines.length c') ∧ w'.cell? ⟨g, go + ka * 2, none⟩ = some (.int .i64 (la : Int)) ∧ w'.cell? ⟨g, go + kb * 2, none⟩ = some (.int .i64 (lb : Int)) ∧ w'.cell? ⟨sb, so + la * 3, none⟩ = some (.string A.name) ∧ w'.cell? ⟨sb, so + la * 3 + 1, none⟩ = some (.slice sa0 A.stops.length sa1) ∧ w'.cell? ⟨sb, so + la * 3 + 2, none⟩ = some (.slice ra0 A.runs.length ra1) ∧ w'.cell? ⟨sb, so + lb * 3, none⟩ = some (.string B.name) ∧ w'.cell? ⟨sb, so + lb * 3 + 1, none⟩ = some (.slice sb0 B.stops.length sb1) ∧ w'.cell? ⟨sb, so + lb * 3 + 2, none⟩ = some (.slice rb0 B.runs.length rb1) ∧ Below w3.heap.size w3 w')) (by kernel_rfl) ?_ (fun hHeld => ?_)
              · exact ⟨p1, ya0, yb0, xa0, xa1, xa2, xb0, xb1, xb2, w3b⟩
              refine wpAnyH_take (i := 0) (v := ?_) (by simp only [List.getElem?_toArray, List.getElem?_cons_zero]; rfl) (by kernel_rfl) (by kernel_rfl) (by kernel_rfl) (by exact fun _ _ _ h => h) (Or.inl ⟨by rfl, ?_⟩) (by assumption) ?_
              rotate_left
              · intro w' hSw; (try dsimp only at hSw); obtain ⟨e0, e1, e2, e3, e4, e5, e6, e7, e8, _⟩ := hSw
                go_simp; try with_reducible rfl
              try simp only [Act.put, List.setIfInBounds_toArray, List.set_cons_zero, List.set_cons_succ]
              refine wpAnyH_take (i := 1) (v := ?_) (by simp only [List.getElem?_toArray, List.getElem?_cons_succ, List.getElem?_cons_zero]; rfl) (by kernel_rfl) (by kernel_rfl) (by kernel_rfl) (by exact fun _ _ _ h => h) (Or.inl ⟨by rfl, ?_⟩) (by assumption) ?_
              rotate_left
              · intro w' hSw; (try dsimp only at hSw); obtain ⟨e0, e1, e2, e3, e4, e5, e6, e7, e8, _⟩ := hSw
                go_simp; try with_reducible rfl
              try simp only [Act.put, List.setIfInBounds_toArray, List.set_cons_zero, List.set_cons_succ]
              refine wpAnyH_take (i := 2) (v := ?_) (by simp only [List.getElem?_toArray, List.getElem?_cons_succ, List.getElem?_cons_zero]; rfl) (by kernel_rfl) (by kernel_rfl) (by kernel_rfl) (by exact fun _ _ _ h => h) (Or.inl ⟨by rfl, ?_⟩) (by assumption) ?_
              rotate_left
              · intro w' hSw; (try dsimp only at hSw); obtain ⟨e0, e1, e2, e3, e4, e5, e6, e7, e8, _⟩ := hSw
                go_simp; try with_reducible rfl
              try simp only [Act.put, List.setIfInBounds_toArray, List.set_cons_zero, List.set_cons_succ]
              refine wpAnyH_take (i := 3) (v := ?_) (by simp only [List.getElem?_toArray, List.getElem?_cons_succ, List.getElem?_cons_zero]; rfl) (by kernel_rfl) (by kernel_rfl) (by kernel_rfl) (by exact fun _ _ _ h => h) (Or.inl ⟨by rfl, ?_⟩) (by assumption) ?_
              rotate_left
              · intro w' hSw; (try dsimp only at hSw); obtain ⟨e0, e1, e2, e3, e4, e5, e6, e7, e8, _⟩ := hSw
                go_simp; try with_reducible rfl
              try simp only [Act.put, List.setIfInBounds_toArray, List.set_cons_zero, List.set_cons_succ]
              refine wpAnyH_take (i := 4) (v := ?_) (by simp only [List.getElem?_toArray, List.getElem?_cons_succ, List.getElem?_cons_zero]; rfl) (by kernel_rfl) (by kernel_rfl) (by kernel_rfl) (by exact fun _ _ _ h => h) (Or.inl ⟨by rfl, ?_⟩) (by assumption) ?_
              rotate_left
              · intro w' hSw; (try dsimp only at hSw); obtain ⟨e0, e1, e2, e3, e4, e5, e6, e7, e8, _⟩ := hSw
                go_simp; try with_reducible rfl
              try simp only [Act.put, List.setIfInBounds_toArray, List.set_cons_zero, List.set_cons_succ]
              refine wpAnyH_take (i := 5) (v := ?_) (by simp only [List.getElem?_toArray, List.getElem?_cons_succ, List.getElem?_cons_zero]; rfl) (by kernel_rfl) (by kernel_rfl) (by kernel_rfl) (by exact fun _ _ _ h => h) (Or.inl ⟨by rfl, ?_⟩) (by assumption) ?_
              rotate_left
              · intro w' hSw; (try dsimp only at hSw); obtain ⟨e0, e1, e2, e3, e4, e5, e6, e7, e8, _⟩ := hSw
                go_simp; try with_reducible rfl
              try simp only [Act.put, List.setIfInBounds_toArray, List.set_cons_zero, List.set_cons_succ]
              refine wpAnyH_take (i := 6) (v := ?_) (by simp only [List.getElem?_toArray, List.getElem?_cons_succ, List.getElem?_cons_zero]; rfl) (by kernel_rfl) (by kernel_rfl) (by kernel_rfl) (by exact fun _ _ _ h => h) (Or.inl ⟨by rfl, ?_⟩) (by assumption) ?_
              rotate_left
              · intro w' hSw; (try dsimp only at hSw); obtain ⟨e0, e1, e2, e3, e4, e5, e6, e7, e8, _⟩ := hSw
                go_simp; try with_reducible rfl
              try simp only [Act.put, List.setIfInBounds_toArray, List.set_cons_zero, List.set_cons_succ]
              refine wpAnyH_take (i := 7) (v := undef) (by simp only [List.getElem?_toArray, List.getElem?_cons_succ, List.getElem?_cons_zero]; rfl) (by kernel_rfl) (by kernel_rfl) (by kernel_rfl) (by exact fun _ _ _ h => h) (Or.inr ⟨by rfl, rfl⟩) (by assumption) ?_
              try simp only [Act.put, List.setIfInBounds_toArray, List.set_cons_zero, List.set_cons_succ]
              refine wpAnyH_take (i := 8) (v := undef) (by simp only [List.getElem?_toArray, List.getElem?_cons_succ, List.getElem?_cons_zero]; rfl) (by kernel_rfl) (by kernel_rfl) (by kernel_rfl) (by exact fun _ _ _ h => h) (Or.inr ⟨by rfl, rfl⟩) (by assumption) ?_
              try simp only [Act.put, List.setIfInBounds_toArray, List.set_cons_zero, List.set_cons_succ]
              refine wpAnyH_take (i := 9) (v := undef) (by simp only [List.getElem?_toArray, List.getElem?_cons_succ, List.getElem?_cons_zero]; rfl) (by kernel_rfl) (by kernel_rfl) (by kernel_rfl) (by exact fun _ _ _ h => h) (Or.inr ⟨by rfl, rfl⟩) (by assumption) ?_
              try simp only [Act.put, List.setIfInBounds_toArray, List.set_cons_zero, List.set_cons_succ]
              refine wpAnyH_take (i := 10) (v := undef) (by simp only [List.getElem?_toArray, List.getElem?_cons_succ, List.getElem?_cons_zero]; rfl) (by kernel_rfl) (by kernel_rfl) (by kernel_rfl) (by exact fun _ _ _ h => h) (Or.inr ⟨by rfl, rfl⟩) (by assumption) ?_
              try simp only [Act.put, List.setIfInBounds_toArray, List.set_cons_zero, List.set_cons_succ]
              refine wpAnyH_take (i := 11) (v := undef) (by simp only [List.getElem?_toArray, List.getElem?_cons_succ, List.getElem?_cons_zero]; rfl) (by kernel_rfl) (by kernel_rfl) (by kernel_rfl) (by exact fun _ _ _ h => h) (Or.inr ⟨by rfl, rfl⟩) (by assumption) ?_
              try simp only [Act.put, List.setIfInBounds_toArray, List.set_cons_zero, List.set_cons_succ]
              refine wpAnyH_take (i := 12) (v := undef) (by simp only [List.getElem?_toArray, List.getElem?_cons_succ, List.getElem?_cons_zero]; rfl) (by kernel_rfl) (by kernel_rfl) (by kernel_rfl) (by exact fun _ _ _ h => h) (Or.inr ⟨by rfl, rfl⟩) (by assumption) ?_
              try simp only [Act.put, List.setIfInBounds_toArray, List.set_cons_zero, List.set_cons_succ]
              refine wpAnyH_take (i := 13) (v := undef) (by simp only [List.getElem?_toArray, List.getElem?_cons_succ, List.getElem?_cons_zero]; rfl) (by kernel_rfl) (by kernel_rfl) (by kernel_rfl) (by exact fun _ _ _ h => h) (Or.inr ⟨by rfl, rfl⟩) (by assumption) ?_
              try simp only [Act.put, List.setIfInBounds_toArray, List.set_cons_zero, List.set_cons_succ]
              refine wpAnyH_take (i := 14) (v := undef) (by simp only [List.getElem?_toArray, List.getElem?_cons_succ, List.getElem?_cons_zero]; rfl) (by kernel_rfl) (by kernel_rfl) (by kernel_rfl) (by exact fun _ _ _ h => h) (Or.inr ⟨by rfl, rfl⟩) (by assumption) ?_
              try simp only [Act.put, List.setIfInBounds_toArray, List.set_cons_zero, List.set_cons_succ]
              refine wpAnyH_take (i := 15) (v := undef) (by simp only [List.getElem?_toArray, List.getElem?_cons_succ, List.getElem?_cons_zero]; rfl) (by kernel_rfl) (by kernel_rfl) (by kernel_rfl) (by exact fun _ _ _ h => h) (Or.inr ⟨by rfl, rfl⟩) (by assumption) ?_
              try simp only [Act.put, List.setIfInBounds_toArray, List.set_cons_zero, List.set_cons_succ]
              refine wpAnyH_take (i := 16) (v := undef) (by simp only [List.getElem?_toArray, List.getElem?_cons_succ, List.getElem?_cons_zero]; rfl) (by kernel_rfl) (by kernel_rfl) (by kernel_rfl) (by exact fun _ _ _ h => h) (Or.inr ⟨by rfl, rfl⟩) (by assumption) ?_
              try simp only [Act.put, List.setIfInBounds_toArray, List.set_cons_zero, List.set_cons_succ]
              refine wpAnyH_take (i := 17) (v := undef) (by simp only [List.getElem?_toArray, List.getElem?_cons_succ, List.getElem?_cons_zero]; rfl) (by kernel_rfl) (by kernel_rfl) (by kernel_rfl) (by exact fun _ _ _ h => h) (Or.inr ⟨by rfl, rfl⟩) (by assumption) ?_
              try simp only [Act.put, List.setIfInBounds_toArray, List.set_cons_zero, List.set_cons_succ]
              refine wpAnyH_take (i := 18) (v := ?_) (by simp only [List.getElem?_toArray, List.getElem?_cons_succ, List.getElem?_cons_zero]; rfl) (by kernel_rfl) (by kernel_rfl) (by kernel_rfl) (by exact fun _ _ _ h => h) (Or.inl ⟨by rfl, ?_⟩) (by assumption) ?_
              rotate_left
              · intro w' hSw; (try dsimp only at hSw); obtain ⟨e0, e1, e2, e3, e4, e5, e6, e7, e8, _⟩ := hSw
                go_simp; try with_reducible rfl
              try simp only [Act.put, List.setIfInBounds_toArray, List.set_cons_zero, List.set_cons_succ]
              refine wpAnyH_take (i := 19) (v := ?_) (by simp only [List.getElem?_toArray, List.getElem?_cons_succ, List.getElem?_cons_zero]; rfl) (by kernel_rfl) (by kernel_rfl) (by kernel_rfl) (by exact fun _ _ _ h => h) (Or.inl ⟨by rfl, ?_⟩) (by assumption) ?_
              rotate_left
              · intro w' hSw; (try dsimp only at hSw); obtain ⟨e0, e1, e2, e3, e4, e5, e6, e7, e8, _⟩ := hSw
                go_simp; try with_reducible rfl
              try simp only [Act.put, List.setIfInBounds_toArray, List.set_cons_zero, List.set_cons_succ]
              refine wpAnyH_take (i := 20) (v := undef) (by simp only [List.getElem?_toArray, List.getElem?_cons_succ, List.getElem?_cons_zero]; rfl) (by kernel_rfl) (by kernel_rfl) (by kernel_rfl) (by exact fun _ _ _ h => h) (Or.inr ⟨by rfl, rfl⟩) (by assumption) ?_
              try simp only [Act.put, List.setIfInBounds_toArray, List.set_cons_zero, List.set_cons_succ]
              refine wpAnyH_take (i := 21) (v := undef) (by simp only [List.getElem?_toArray, List.getElem?_cons_succ, List.getElem?_cons_zero]; rfl) (by kernel_rfl) (by kernel_rfl) (by kernel_rfl) (by exact fun _ _ _ h => h) (Or.inr ⟨by rfl, rfl⟩) (by assumption) ?_
              try simp only [Act.put, List.setIfInBounds_toArray, List.set_cons_zero, List.set_cons_succ]
              refine wpAnyH_take (i := 22) (v := undef) (by simp only [List.getElem?_toArray, List.getElem?_cons_succ, List.getElem?_cons_zero]; rfl) (by kernel_rfl) (by kernel_rfl) (by kernel_rfl) (by exact fun _ _ _ h => h) (Or.inr ⟨by rfl, rfl⟩) (by assumption) ?_
              try simp only [Act.put, List.setIfInBounds_toArray, List.set_cons_zero, List.set_cons_succ]
              refine wpAnyH_take (i := 23) (v := undef) (by simp only [List.getElem?_toArray, List.getElem?_cons_succ, List.getElem?_cons_zero]; rfl) (by kernel_rfl) (by kernel_rfl) (by kernel_rfl) (by exact fun _ _ _ h => h) (Or.inr ⟨by rfl, rfl⟩) (by assumption) ?_
              try simp only [Act.put, List.setIfInBounds_toArray, List.set_cons_zero, List.set_cons_succ]
              refine wpAnyH_take (i := 24) (v := undef) (by simp only [List.getElem?_toArray, List.getElem?_cons_succ, List.getElem?_cons_zero]; rfl) (by kernel_rfl) (by kernel_rfl) (by kernel_rfl) (by exact fun _ _ _ h => h) (Or.inr ⟨by rfl, rfl⟩) (by assumption) ?_
              try simp only [Act.put, List.setIfInBounds_toArray, List.set_cons_zero, List.set_cons_succ]
              refine wpAnyH_take (i := 25) (v := undef) (by simp only [List.getElem?_toArray, List.getElem?_cons_succ, List.getElem?_cons_zero]; rfl) (by kernel_rfl) (by kernel_rfl) (by kernel_rfl) (by exact fun _ _ _ h => h) (Or.inr ⟨by rfl, rfl⟩) (by assumption) ?_
              try simp only [Act.put, List.setIfInBounds_toArray, List.set_cons_zero, List.set_cons_succ]
              refine wpAnyH_take (i := 26) (v := undef) (by simp only [List.getElem?_toArray, List.getElem?_cons_succ, List.getElem?_cons_zero]; rfl) (by kernel_rfl) (by kernel_rfl) (by kernel_rfl) (by exact fun _ _ _ h => h) (Or.inr ⟨by rfl, rfl⟩) (by assumption) ?_
              try simp only [Act.put, List.setIfInBounds_toArray, List.set_cons_zero, List.set_cons_succ]
              refine wpAnyH_take (i := 27) (v := undef) (by simp only [List.getElem?_toArray, List.getElem?_cons_succ, List.getElem?_cons_zero]; rfl) (by kernel_rfl) (by kernel_rfl) (by kernel_rfl) (by exact fun _ _ _ h => h) (Or.inr ⟨by rfl, rfl⟩) (by assumption) ?_
              try simp only [Act.put, List.setIfInBounds_toArray, List.set_cons_zero, List.set_cons_succ]
              refine wpAnyH_take (i := 28) (v := undef) (by simp only [List.getElem?_toArray, List.getElem?_cons_succ, List.getElem?_cons_zero]; rfl) (by kernel_rfl) (by kernel_rfl) (by kernel_rfl) (by exact fun _ _ _ h => h) (Or.inr ⟨by rfl, rfl⟩) (by assumption) ?_
              try simp only [Act.put, List.setIfInBounds_toArray, List.set_cons_zero, List.set_cons_succ]
              refine wpAnyH_take (i := 29) (v := undef) (by simp only [List.getElem?_toArray, List.getElem?_cons_succ, List.getElem?_cons_zero]; rfl) (by kernel_rfl) (by kernel_rfl) (by kernel_rfl) (by exact fun _ _ _ h => h) (Or.inr ⟨by rfl, rfl⟩) (by assumption) ?_
              try simp only [Act.put, List.setIfInBounds_toArray, List.set_cons_zero, List.set_cons_succ]
              refine wpAnyH_take (i := 30) (v := undef) (by simp only [List.getElem?_toArray, List.getElem?_cons_succ, List.getElem?_cons_zero]; rfl) (by kernel_rfl) (by kernel_rfl) (by kernel_rfl) (by exact fun _ _ _ h => h) (Or.inr ⟨by rfl, rfl⟩) (by assumption) ?_
              try simp only [Act.put, List.setIfInBounds_toArray, List.set_cons_zero, List.set_cons_succ]
              refine wpAnyH_take (i := 31) (v := ?_) (by simp only [List.getElem?_toArray, List.getElem?_cons_succ, List.getElem?_cons_zero]; rfl) (by kernel_rfl) (by kernel_rfl) (by kernel_rfl) (by exact fun _ _ _ h => h) (Or.inl ⟨by rfl, ?_⟩) (by assumption) ?_
              rotate_left
              · intro w' hSw; (try dsimp only at hSw); obtain ⟨e0, e1, e2, e3, e4, e5, e6, e7, e8, _⟩ := hSw
                go_simp; try with_reducible rfl
              try simp only [Act.put, List.setIfInBounds_toArray, List.set_cons_zero, List.set_cons_succ]
              refine wpAnyH_done (by kernel_rfl) ?_ _
              have HBf : Hid (Below w.heap.size w w3.drew) := HBb.out.1.trans ((w3b).mono HBb.out.1.size)
              go_wp2_with fail
              go_ret2
              exact ⟨rfl, HBf.out⟩
            · rw [restT_yes (by omega)] at HCb
              rw [restT_yes (by omega)] at HCa
              by_cases hfi : fstIdx stop A.stops = 0
              · have ht : twB n p xs ka kb stop wk = false := twB_no (fun h => by have := (HTw.out.1 h).2.2.2; omega)
                rw [twF_no ht, ht]
                rw [show decide (fstIdx stop A.stops = 0) = true from decide_eq_true hfi] at HFi
                clear ht HTw HTf HSt HLa
                go_enter Try.func32, Try.ntmps32
                go_wp2_with fail
                go_at_call 77
                refine (HG.out _ ((Below.refl _ _).alloc (Nat.le_refl _) _)).mono ?_
                rintro e w1 ⟨rfl, hb1⟩
                have HB1 : Hid (Below w.heap.size w w1 ∧ w.heap.size < w1.heap.size) := ⟨((Below.refl _ _).alloc (Nat.le_refl _) _).trans (hb1.mono (by simp)), by have := hb1.size; simp at this; omega⟩
                have p0 : w1.cell? ⟨w.heap.size, 0, none⟩ = some (.slice a0 n.stops.length c) := bkeep hb1 (by go_simp)
                have p1 : w1.cell? ⟨w.heap.size, 1, none⟩ = some (.slice (some ⟨sb, so, none⟩) n.lines.length c') := bkeep hb1 (by go_simp)
                clear hb1 HG
                have ya0 := bkeep HB1.out.1 ya0
                have ya1 := bkeep HB1.out.1 ya1
                have yb0 := bkeep HB1.out.1 yb0
                have yb1 := bkeep HB1.out.1 yb1
                go_wp2_with fail
                go_region_held3 (fun w' => w'.cell? ⟨w.heap.size, 0, none⟩ = some (.slice a0 n.stops.length c) ∧ w'.cell? ⟨w.heap.size, 1, none⟩ = some (.slice (some ⟨sb, so, none⟩) n.lines.length c') ∧ w'.cell? ⟨g, go + ka * 2, none⟩ = some (.int .i64 (la : Int)) ∧ w'.cell? ⟨g, go + ka * 2 + 1, none⟩ = some (.int .i64 xo) ∧ w'.cell? ⟨g, go + kb * 2, none⟩ = some (.int .i64 (lb : Int)) ∧ w'.cell? ⟨g, go + kb * 2 + 1, none⟩ = some (.int .i64 yo) ∧ Below w1.heap.size w1 w')
                  (first | (exact ⟨p0, p1, ya0, ya1, yb0, yb1, (Below.refl _ _).drew⟩) | (exact keepT6 hb (by assumption)))
                  ((go_at_call 78; refine (HCa.out _ (HB1.out.1.trans ((belT6 (by assumption)).mono HB1.out.1.size))).mono ?_; rintro e w' ⟨rfl, hb⟩))
                obtain ⟨p0, p1, ya0, ya1, yb0, yb1, qb⟩ := (by assumption : _ ∧ _)
                rename World => w2
                have HBa : Hid (Below w.heap.size w w2 ∧ w.heap.size < w2.heap.size) := ⟨HB1.out.1.trans (qb.mono HB1.out.1.size), by have := qb.size; have := HB1.out.2; omega⟩
                clear qb HB1 HCa
                go_wp2_with fail
                go_region_held3 (fun w' => w'.cell? ⟨w.heap.size, 0, none⟩ = some (.slice a0 n.stops.length c) ∧ w'.cell? ⟨w.heap.size, 1, none⟩ = some (.slice (some ⟨sb, so, none⟩) n.lines.length c') ∧ w'.cell? ⟨g, go + ka * 2, none⟩ = some (.int .i64 (la : Int)) ∧ w'.cell? ⟨g, go + ka * 2 + 1, none⟩ = some (.int .i64 xo) ∧ w'.cell? ⟨g, go + kb * 2, none⟩ = some (.int .i64 (lb : Int)) ∧ w'.cell? ⟨g, go + kb * 2 + 1, none⟩ = some (.int .i64 yo) ∧ Below w2.heap.size w2 w')
                  (first | (exact ⟨p0, p1, ya0, ya1, yb0, yb1, (Below.refl _ _).drew⟩) | (exact keepT6 hb (by assumption)))
                  ((go_at_call 78; refine (HCb.out _ (HBa.out.1.trans ((belT6 (by assumption)).mono HBa.out.1.size))).mono ?_; rintro e w' ⟨rfl, hb⟩))
                obtain ⟨p0, p1, ya0, ya1, yb0, yb1, qb⟩ := (by assumption : _ ∧ _)
                rename World => w3
                have HBb : Hid (Below w.heap.size w w3 ∧ w.heap.size < w3.heap.size) := ⟨HBa.out.1.trans (qb.mono HBa.out.1.size), by have := qb.size; have := HBa.out.2; omega⟩
                clear qb HBa HCb
                have xa0 := bkeep HBb.out.1 xa0
                have xa1 := bkeep HBb.out.1 xa1
                have xa2 := bkeep HBb.out.1 xa2
                have xb0 := bkeep HBb.out.1 xb0
                have xb1 := bkeep HBb.out.1 xb1
                have xb2 := bkeep HBb.out.1 xb2
                go_wp2_with fail
                have w3b : Below w3.heap.size w3 w3.drew := (Below.refl _ _).drew
                refine wp_region_held_drew (S := (fun w' => w'.cell? ⟨w.heap.size, 1, none⟩ = some (.slice (some ⟨sb, so, none⟩) n.lines.length c') ∧ w'.cell? ⟨g, go + ka * 2, none⟩ = some (.int .i64 (la : Int)) ∧ w'.cell? ⟨g, go + kb * 2, none⟩ = some (.int .i64 (lb : Int)) ∧ w'.cell? ⟨sb, so + la * 3, none⟩ = some (.string A.name) ∧ w'.cell? ⟨sb, so + la * 3 + 1, none⟩ = some (.slice sa0 A.stops.length sa1) ∧ w'.cell? ⟨sb, so + la * 3 + 2, none⟩ = some (.slice ra0 A.runs.length ra1) ∧ w'.cell? ⟨sb, so + lb * 3, none⟩ = some (.string B.name) ∧ w'.cell? ⟨sb, so + lb * 3 + 1, none⟩ = some (.slice sb0 B.stops.length sb1) ∧ w'.cell? ⟨sb, so + lb * 3 + 2, none⟩ = some (.slice rb0 B.runs.length rb1) ∧ Below w3.heap.size w3 w')) (by kernel_rfl) ?_ (fun hHeld => ?_)
                · exact ⟨p1, ya0, yb0, xa0, xa1, xa2, xb0, xb1, xb2, w3b⟩
                refine wpAnyH_take (i := 0) (v := ?_) (by simp only [List.getElem?_toArray, List.getElem?_cons_zero]; rfl) (by kernel_rfl) (by kernel_rfl) (by kernel_rfl) (by exact fun _ _ _ h => h) (Or.inl ⟨by rfl, ?_⟩) (by assumption) ?_
                rotate_left
                · intro w' hSw; (try dsimp only at hSw); obtain ⟨e0, e1, e2, e3, e4, e5, e6, e7, e8, _⟩ := hSw
                  go_simp; try with_reducible rfl
                try simp only [Act.put, List.setIfInBounds_toArray, List.set_cons_zero, List.set_cons_succ]
                refine wpAnyH_take (i := 1) (v := ?_) (by simp only [List.getElem?_toArray, List.getElem?_cons_succ, List.getElem?_cons_zero]; rfl) (by kernel_rfl) (by kernel_rfl) (by kernel_rfl) (by exact fun _ _ _ h => h) (Or.inl ⟨by rfl, ?_⟩) (by assumption) ?_
                rotate_left
                · intro w' hSw; (try dsimp only at hSw); obtain ⟨e0, e1, e2, e3, e4, e5, e6, e7, e8, _⟩ := hSw
                  go_simp; try with_reducible rfl
                try simp only [Act.put, List.setIfInBounds_toArray, List.set_cons_zero, List.set_cons_succ]
                refine wpAnyH_take (i := 2) (v := ?_) (by simp only [List.getElem?_toArray, List.getElem?_cons_succ, List.getElem?_cons_zero]; rfl) (by kernel_rfl) (by kernel_rfl) (by kernel_rfl) (by exact fun _ _ _ h => h) (Or.inl ⟨by rfl, ?_⟩) (by assumption) ?_
                rotate_left
                · intro w' hSw; (try dsimp only at hSw); obtain ⟨e0, e1, e2, e3, e4, e5, e6, e7, e8, _⟩ := hSw
                  go_simp; try with_reducible rfl
                try simp only [Act.put, List.setIfInBounds_toArray, List.set_cons_zero, List.set_cons_succ]
                refine wpAnyH_take (i := 3) (v := ?_) (by simp only [List.getElem?_toArray, List.getElem?_cons_succ, List.getElem?_cons_zero]; rfl) (by kernel_rfl) (by kernel_rfl) (by kernel_rfl) (by exact fun _ _ _ h => h) (Or.inl ⟨by rfl, ?_⟩) (by assumption) ?_
                rotate_left
                · intro w' hSw; (try dsimp only at hSw); obtain ⟨e0, e1, e2, e3, e4, e5, e6, e7, e8, _⟩ := hSw
                  go_simp; try with_reducible rfl
                try simp only [Act.put, List.setIfInBounds_toArray, List.set_cons_zero, List.set_cons_succ]
                refine wpAnyH_take (i := 4) (v := ?_) (by simp only [List.getElem?_toArray, List.getElem?_cons_succ, List.getElem?_cons_zero]; rfl) (by kernel_rfl) (by kernel_rfl) (by kernel_rfl) (by exact fun _ _ _ h => h) (Or.inl ⟨by rfl, ?_⟩) (by assumption) ?_
                rotate_left
                · intro w' hSw; (try dsimp only at hSw); obtain ⟨e0, e1, e2, e3, e4, e5, e6, e7, e8, _⟩ := hSw
                  go_simp; try with_reducible rfl
                try simp only [Act.put, List.setIfInBounds_toArray, List.set_cons_zero, List.set_cons_succ]
                refine wpAnyH_take (i := 5) (v := ?_) (by simp only [List.getElem?_toArray, List.getElem?_cons_succ, List.getElem?_cons_zero]; rfl) (by kernel_rfl) (by kernel_rfl) (by kernel_rfl) (by exact fun _ _ _ h => h) (Or.inl ⟨by rfl, ?_⟩) (by assumption) ?_
                rotate_left
                · intro w' hSw; (try dsimp only at hSw); obtain ⟨e0, e1, e2, e3, e4, e5, e6, e7, e8, _⟩ := hSw
                  go_simp; try with_reducible rfl
                try simp only [Act.put, List.setIfInBounds_toArray, List.set_cons_zero, List.set_cons_succ]
                refine wpAnyH_take (i := 6) (v := ?_) (by simp only [List.getElem?_toArray, List.getElem?_cons_succ, List.getElem?_cons_zero]; rfl) (by kernel_rfl) (by kernel_rfl) (by kernel_rfl) (by exact fun _ _ _ h => h) (Or.inl ⟨by rfl, ?_⟩) (by assumption) ?_
                rotate_left
                · intro w' hSw; (try dsimp only at hSw); obtain ⟨e0, e1, e2, e3, e4, e5, e6, e7, e8, _⟩ := hSw
                  go_simp; try with_reducible rfl
                try simp only [Act.put, List.setIfInBounds_toArray, List.set_cons_zero, List.set_cons_succ]
                refine wpAnyH_take (i := 7) (v := ?_) (by simp only [List.getElem?_toArray, List.getElem?_cons_succ, List.getElem?_cons_zero]; rfl) (by kernel_rfl) (by kernel_rfl) (by kernel_rfl) (by exact fun _ _ _ h => h) (Or.inl ⟨by rfl, ?_⟩) (by assumption) ?_
                rotate_left
                · intro w' hSw; (try dsimp only at hSw); obtain ⟨e0, e1, e2, e3, e4, e5, e6, e7, e8, _⟩ := hSw
                  go_simp; try with_reducible rfl
                try simp only [Act.put, List.setIfInBounds_toArray, List.set_cons_zero, List.set_cons_succ]
                refine wpAnyH_take (i := 8) (v := ?_) (by simp only [List.getElem?_toArray, List.getElem?_cons_succ, List.getElem?_cons_zero]; rfl) (by kernel_rfl) (by kernel_rfl) (by kernel_rfl) (by exact fun _ _ _ h => h) (Or.inl ⟨by rfl, ?_⟩) (by assumption) ?_
                rotate_left
                · intro w' hSw; (try dsimp only at hSw); obtain ⟨e0, e1, e2, e3, e4, e5, e6, e7, e8, _⟩ := hSw
                  go_simp; try with_reducible rfl
                try simp only [Act.put, List.setIfInBounds_toArray, List.set_cons_zero, List.set_cons_succ]
                refine wpAnyH_take (i := 9) (v := ?_) (by simp only [List.getElem?_toArray, List.getElem?_cons_succ, List.getElem?_cons_zero]; rfl) (by kernel_rfl) (by kernel_rfl) (by kernel_rfl) (by exact fun _ _ _ h => h) (Or.inl ⟨by rfl, ?_⟩) (by assumption) ?_
                rotate_left
                · intro w' hSw; (try dsimp only at hSw); obtain ⟨e0, e1, e2, e3, e4, e5, e6, e7, e8, _⟩ := hSw
                  go_simp; try with_reducible rfl
                try simp only [Act.put, List.setIfInBounds_toArray, List.set_cons_zero, List.set_cons_succ]
                refine wpAnyH_take (i := 10) (v := ?_) (by simp only [List.getElem?_toArray, List.getElem?_cons_succ, List.getElem?_cons_zero]; rfl) (by kernel_rfl) (by kernel_rfl) (by kernel_rfl) (by exact fun _ _ _ h => h) (Or.inl ⟨by rfl, ?_⟩) (by assumption) ?_
                rotate_left
                · intro w' hSw; (try dsimp only at hSw); obtain ⟨e0, e1, e2, e3, e4, e5, e6, e7, e8, _⟩ := hSw
                  go_simp; try with_reducible rfl
                try simp only [Act.put, List.setIfInBounds_toArray, List.set_cons_zero, List.set_cons_succ]
                refine wpAnyH_take (i := 11) (v := ?_) (by simp only [List.getElem?_toArray, List.getElem?_cons_succ, List.getElem?_cons_zero]; rfl) (by kernel_rfl) (by kernel_rfl) (by kernel_rfl) (by exact fun _ _ _ h => h) (Or.inl ⟨by rfl, ?_⟩) (by assumption) ?_
                rotate_left
                · intro w' hSw; (try dsimp only at hSw); obtain ⟨e0, e1, e2, e3, e4, e5, e6, e7, e8, _⟩ := hSw
                  go_simp; try with_reducible rfl
                try simp only [Act.put, List.setIfInBounds_toArray, List.set_cons_zero, List.set_cons_succ]
                refine wpAnyH_take (i := 12) (v := ?_) (by simp only [List.getElem?_toArray, List.getElem?_cons_succ, List.getElem?_cons_zero]; rfl) (by kernel_rfl) (by kernel_rfl) (by kernel_rfl) (by exact fun _ _ _ h => h) (Or.inl ⟨by rfl, ?_⟩) (by assumption) ?_
                rotate_left
                · intro w' hSw; (try dsimp only at hSw); obtain ⟨e0, e1, e2, e3, e4, e5, e6, e7, e8, _⟩ := hSw
                  go_simp; try with_reducible rfl
                try simp only [Act.put, List.setIfInBounds_toArray, List.set_cons_zero, List.set_cons_succ]
                refine wpAnyH_take (i := 13) (v := ?_) (by simp only [List.getElem?_toArray, List.getElem?_cons_succ, List.getElem?_cons_zero]; rfl) (by kernel_rfl) (by kernel_rfl) (by kernel_rfl) (by exact fun _ _ _ h => h) (Or.inl ⟨by rfl, ?_⟩) (by assumption) ?_
                rotate_left
                · intro w' hSw; (try dsimp only at hSw); obtain ⟨e0, e1, e2, e3, e4, e5, e6, e7, e8, _⟩ := hSw
                  go_simp; try with_reducible rfl
                try simp only [Act.put, List.setIfInBounds_toArray, List.set_cons_zero, List.set_cons_succ]
                refine wpAnyH_take (i := 14) (v := ?_) (by simp only [List.getElem?_toArray, List.getElem?_cons_succ, List.getElem?_cons_zero]; rfl) (by kernel_rfl) (by kernel_rfl) (by kernel_rfl) (by exact fun _ _ _ h => h) (Or.inl ⟨by rfl, ?_⟩) (by assumption) ?_
                rotate_left
                · intro w' hSw; (try dsimp only at hSw); obtain ⟨e0, e1, e2, e3, e4, e5, e6, e7, e8, _⟩ := hSw
                  go_simp; try with_reducible rfl
                try simp only [Act.put, List.setIfInBounds_toArray, List.set_cons_zero, List.set_cons_succ]
                refine wpAnyH_take (i := 15) (v := ?_) (by simp only [List.getElem?_toArray, List.getElem?_cons_succ, List.getElem?_cons_zero]; rfl) (by kernel_rfl) (by kernel_rfl) (by kernel_rfl) (by exact fun _ _ _ h => h) (Or.inl ⟨by rfl, ?_⟩) (by assumption) ?_
                rotate_left
                · intro w' hSw; (try dsimp only at hSw); obtain ⟨e0, e1, e2, e3, e4, e5, e6, e7, e8, _⟩ := hSw
                  go_simp; try with_reducible rfl
                try simp only [Act.put, List.setIfInBounds_toArray, List.set_cons_zero, List.set_cons_succ]
                refine wpAnyH_take (i := 16) (v := ?_) (by simp only [List.getElem?_toArray, List.getElem?_cons_succ, List.getElem?_cons_zero]; rfl) (by kernel_rfl) (by kernel_rfl) (by kernel_rfl) (by exact fun _ _ _ h => h) (Or.inl ⟨by rfl, ?_⟩) (by assumption) ?_
                rotate_left
                · intro w' hSw; (try dsimp only at hSw); obtain ⟨e0, e1, e2, e3, e4, e5, e6, e7, e8, _⟩ := hSw
                  go_simp; try with_reducible rfl
                try simp only [Act.put, List.setIfInBounds_toArray, List.set_cons_zero, List.set_cons_succ]
                refine wpAnyH_ready (rs := [17]) (by kernel_rfl) (by simp) ?_
                refine AllReadyH.cons (by simp only [List.getElem?_toArray, List.getElem?_cons_succ, List.getElem?_cons_zero]; rfl) (fun K hK => ?_) AllReadyH.nil
                go_simp
                go_at_call 79
                refine (HFi.out _ (HBb.out.1.trans (w3b.mono HBb.out.1.size))).mono ?_
                rintro e w5 ⟨rfl, hb⟩
                have w5b : Below w3.heap.size w3 w5 := w3b.trans (hb.mono w3b.size)
                have hSw5 : w5.cell? ⟨w.heap.size, 1, none⟩ = some (.slice (some ⟨sb, so, none⟩) n.lines.length c') ∧ w5.cell? ⟨g, go + ka * 2, none⟩ = some (.int .i64 (la : Int)) ∧ w5.cell? ⟨g, go + kb * 2, none⟩ = some (.int .i64 (lb : Int)) ∧ w5.cell? ⟨sb, so + la * 3, none⟩ = some (.string A.name) ∧ w5.cell? ⟨sb, so + la * 3 + 1, none⟩ = some (.slice sa0 A.stops.length sa1) ∧ w5.cell? ⟨sb, so + la * 3 + 2, none⟩ = some (.slice ra0 A.runs.length ra1) ∧ w5.cell? ⟨sb, so + lb * 3, none⟩ = some (.string B.name) ∧ w5.cell? ⟨sb, so + lb * 3 + 1, none⟩ = some (.slice sb0 B.stops.length sb1) ∧ w5.cell? ⟨sb, so + lb * 3 + 2, none⟩ = some (.slice rb0 B.runs.length rb1) ∧ Below w3.heap.size w3 w5 := ⟨bkeep w5b p1, bkeep w5b ya0, bkeep w5b yb0, bkeep w5b xa0, bkeep w5b xa1, bkeep w5b xa2, bkeep w5b xb0, bkeep w5b xb1, bkeep w5b xb2, w5b⟩
                clear hb
                go_wp2_with fail
                refine hK.out _ _ hSw5 (fun hH17 => ?_)
                clear hK K
                try simp only [Act.put, List.setIfInBounds_toArray, List.set_cons_zero, List.set_cons_succ]
                refine wpAnyH_take (i := 18) (v := ?_) (by simp only [List.getElem?_toArray, List.getElem?_cons_succ, List.getElem?_cons_zero]; rfl) (by kernel_rfl) (by kernel_rfl) (by kernel_rfl) (by exact fun _ _ _ h => h) (Or.inl ⟨by rfl, ?_⟩) (by assumption) ?_
                rotate_left
                · intro w' hSw; (try dsimp only at hSw); obtain ⟨e0, e1, e2, e3, e4, e5, e6, e7, e8, _⟩ := hSw
                  go_simp; try with_reducible rfl
                try simp only [Act.put, List.setIfInBounds_toArray, List.set_cons_zero, List.set_cons_succ]
                refine wpAnyH_take (i := 19) (v := ?_) (by simp only [List.getElem?_toArray, List.getElem?_cons_succ, List.getElem?_cons_zero]; rfl) (by kernel_rfl) (by kernel_rfl) (by kernel_rfl) (by exact fun _ _ _ h => h) (Or.inl ⟨by rfl, ?_⟩) (by assumption) ?_
                rotate_left
                · intro w' hSw; (try dsimp only at hSw); obtain ⟨e0, e1, e2, e3, e4, e5, e6, e7, e8, _⟩ := hSw
                  go_simp; try with_reducible rfl
                try simp only [Act.put, List.setIfInBounds_toArray, List.set_cons_zero, List.set_cons_succ]
                refine wpAnyH_take (i := 20) (v := undef) (by simp only [List.getElem?_toArray, List.getElem?_cons_succ, List.getElem?_cons_zero]; rfl) (by kernel_rfl) (by kernel_rfl) (by kernel_rfl) (by exact fun _ _ _ h => h) (Or.inr ⟨by rfl, rfl⟩) (by assumption) ?_
                try simp only [Act.put, List.setIfInBounds_toArray, List.set_cons_zero, List.set_cons_succ]
                refine wpAnyH_take (i := 21) (v := undef) (by simp only [List.getElem?_toArray, List.getElem?_cons_succ, List.getElem?_cons_zero]; rfl) (by kernel_rfl) (by kernel_rfl) (by kernel_rfl) (by exact fun _ _ _ h => h) (Or.inr ⟨by rfl, rfl⟩) (by assumption) ?_
                try simp only [Act.put, List.setIfInBounds_toArray, List.set_cons_zero, List.set_cons_succ]
                refine wpAnyH_take (i := 22) (v := undef) (by simp only [List.getElem?_toArray, List.getElem?_cons_succ, List.getElem?_cons_zero]; rfl) (by kernel_rfl) (by kernel_rfl) (by kernel_rfl) (by exact fun _ _ _ h => h) (Or.inr ⟨by rfl, rfl⟩) (by assumption) ?_
                try simp only [Act.put, List.setIfInBounds_toArray, List.set_cons_zero, List.set_cons_succ]
                refine wpAnyH_take (i := 23) (v := undef) (by simp only [List.getElem?_toArray, List.getElem?_cons_succ, List.getElem?_cons_zero]; rfl) (by kernel_rfl) (by kernel_rfl) (by kernel_rfl) (by exact fun _ _ _ h => h) (Or.inr ⟨by rfl, rfl⟩) (by assumption) ?_
                try simp only [Act.put, List.setIfInBounds_toArray, List.set_cons_zero, List.set_cons_succ]
                refine wpAnyH_take (i := 24) (v := undef) (by simp only [List.getElem?_toArray, List.getElem?_cons_succ, List.getElem?_cons_zero]; rfl) (by kernel_rfl) (by kernel_rfl) (by kernel_rfl) (by exact fun _ _ _ h => h) (Or.inr ⟨by rfl, rfl⟩) (by assumption) ?_
                try simp only [Act.put, List.setIfInBounds_toArray, List.set_cons_zero, List.set_cons_succ]
                refine wpAnyH_take (i := 25) (v := undef) (by simp only [List.getElem?_toArray, List.getElem?_cons_succ, List.getElem?_cons_zero]; rfl) (by kernel_rfl) (by kernel_rfl) (by kernel_rfl) (by exact fun _ _ _ h => h) (Or.inr ⟨by rfl, rfl⟩) (by assumption) ?_
                try simp only [Act.put, List.setIfInBounds_toArray, List.set_cons_zero, List.set_cons_succ]
                refine wpAnyH_take (i := 26) (v := undef) (by simp only [List.getElem?_toArray, List.getElem?_cons_succ, List.getElem?_cons_zero]; rfl) (by kernel_rfl) (by kernel_rfl) (by kernel_rfl) (by exact fun _ _ _ h => h) (Or.inr ⟨by rfl, rfl⟩) (by assumption) ?_
                try simp only [Act.put, List.setIfInBounds_toArray, List.set_cons_zero, List.set_cons_succ]
                refine wpAnyH_take (i := 27) (v := undef) (by simp only [List.getElem?_toArray, List.getElem?_cons_succ, List.getElem?_cons_zero]; rfl) (by kernel_rfl) (by kernel_rfl) (by kernel_rfl) (by exact fun _ _ _ h => h) (Or.inr ⟨by rfl, rfl⟩) (by assumption) ?_
                try simp only [Act.put, List.setIfInBounds_toArray, List.set_cons_zero, List.set_cons_succ]
                refine wpAnyH_take (i := 28) (v := undef) (by simp only [List.getElem?_toArray, List.getElem?_cons_succ, List.getElem?_cons_zero]; rfl) (by kernel_rfl) (by kernel_rfl) (by kernel_rfl) (by exact fun _ _ _ h => h) (Or.inr ⟨by rfl, rfl⟩) (by assumption) ?_
                try simp only [Act.put, List.setIfInBounds_toArray, List.set_cons_zero, List.set_cons_succ]
                refine wpAnyH_take (i := 29) (v := undef) (by simp only [List.getElem?_toArray, List.getElem?_cons_succ, List.getElem?_cons_zero]; rfl) (by kernel_rfl) (by kernel_rfl) (by kernel_rfl) (by exact fun _ _ _ h => h) (Or.inr ⟨by rfl, rfl⟩) (by assumption) ?_
                try simp only [Act.put, List.setIfInBounds_toArray, List.set_cons_zero, List.set_cons_succ]
                refine wpAnyH_take (i := 30) (v := undef) (by simp only [List.getElem?_toArray, List.getElem?_cons_succ, List.getElem?_cons_zero]; rfl) (by kernel_rfl) (by kernel_rfl) (by kernel_rfl) (by exact fun _ _ _ h => h) (Or.inr ⟨by rfl, rfl⟩) (by assumption) ?_
                try simp only [Act.put, List.setIfInBounds_toArray, List.set_cons_zero, List.set_cons_succ]
                refine wpAnyH_take (i := 31) (v := ?_) (by simp only [List.getElem?_toArray, List.getElem?_cons_succ, List.getElem?_cons_zero]; rfl) (by kernel_rfl) (by kernel_rfl) (by kernel_rfl) (by exact fun _ _ _ h => h) (Or.inl ⟨by rfl, ?_⟩) (by assumption) ?_
                rotate_left
                · intro w' hSw; (try dsimp only at hSw); obtain ⟨e0, e1, e2, e3, e4, e5, e6, e7, e8, _⟩ := hSw
                  go_simp; try with_reducible rfl
                try simp only [Act.put, List.setIfInBounds_toArray, List.set_cons_zero, List.set_cons_succ]
                refine wpAnyH_done (by kernel_rfl) ?_ _
                have HBf : Hid (Below w.heap.size w w5) := HBb.out.1.trans ((w5b).mono HBb.out.1.size)
                go_wp2_with fail
                go_ret2
                exact ⟨rfl, HBf.out⟩
              · rw [show decide (fstIdx stop A.stops = 0) = false from decide_eq_false hfi] at HFi
                by_cases hlast : fstIdx stop B.stops = (B.stops.length : Int) - 1
                · have ht : twB n p xs ka kb stop wk = false := twB_no (fun h => by have := (HTw.out.1 h).2.2.2; omega)
                  rw [twF_no ht, ht]
                  rw [show decide (fstIdx stop B.stops = (B.stops.length : Int) - 1) = true from decide_eq_true hlast] at HLa
                  clear ht HTw HTf HSt
                  go_enter Try.func32, Try.ntmps32
                  go_wp2_with fail
                  go_at_call 77
                  refine (HG.out _ ((Below.refl _ _).alloc (Nat.le_refl _) _)).mono ?_
                  rintro e w1 ⟨rfl, hb1⟩
                  have HB1 : Hid (Below w.heap.size w w1 ∧ w.heap.size < w1.heap.size) := ⟨((Below.refl _ _).alloc (Nat.le_refl _) _).trans (hb1.mono (by simp)), by have := hb1.size; simp at this; omega⟩
                  have p0 : w1.cell? ⟨w.heap.size, 0, none⟩ = some (.slice a0 n.stops.length c) := bkeep hb1 (by go_simp)
                  have p1 : w1.cell? ⟨w.heap.size, 1, none⟩ = some (.slice (some ⟨sb, so, none⟩) n.lines.length c') := bkeep hb1 (by go_simp)
                  clear hb1 HG
                  have ya0 := bkeep HB1.out.1 ya0
                  have ya1 := bkeep HB1.out.1 ya1
                  have yb0 := bkeep HB1.out.1 yb0
                  have yb1 := bkeep HB1.out.1 yb1
                  go_wp2_with fail
                  go_region_held3 (fun w' => w'.cell? ⟨w.heap.size, 0, none⟩ = some (.slice a0 n.stops.length c) ∧ w'.cell? ⟨w.heap.size, 1, none⟩ = some (.slice (some ⟨sb, so, none⟩) n.lines.length c') ∧ w'.cell? ⟨g, go + ka * 2, none⟩ = some (.int .i64 (la : Int)) ∧ w'.cell? ⟨g, go + ka * 2 + 1, none⟩ = some (.int .i64 xo) ∧ w'.cell? ⟨g, go + kb * 2, none⟩ = some (.int .i64 (lb : Int)) ∧ w'.cell? ⟨g, go + kb * 2 + 1, none⟩ = some (.int .i64 yo) ∧ Below w1.heap.size w1 w')
                    (first | (exact ⟨p0, p1, ya0, ya1, yb0, yb1, (Below.refl _ _).drew⟩) | (exact keepT6 hb (by assumption)))
                    ((go_at_call 78; refine (HCa.out _ (HB1.out.1.trans ((belT6 (by assumption)).mono HB1.out.1.size))).mono ?_; rintro e w' ⟨rfl, hb⟩))
                  obtain ⟨p0, p1, ya0, ya1, yb0, yb1, qb⟩ := (by assumption : _ ∧ _)
                  rename World => w2
                  have HBa : Hid (Below w.heap.size w w2 ∧ w.heap.size < w2.heap.size) := ⟨HB1.out.1.trans (qb.mono HB1.out.1.size), by have := qb.size; have := HB1.out.2; omega⟩
                  clear qb HB1 HCa
                  go_wp2_with fail
                  go_region_held3 (fun w' => w'.cell? ⟨w.heap.size, 0, none⟩ = some (.slice a0 n.stops.length c) ∧ w'.cell? ⟨w.heap.size, 1, none⟩ = some (.slice (some ⟨sb, so, none⟩) n.lines.length c') ∧ w'.cell? ⟨g, go + ka * 2, none⟩ = some (.int .i64 (la : Int)) ∧ w'.cell? ⟨g, go + ka * 2 + 1, none⟩ = some (.int .i64 xo) ∧ w'.cell? ⟨g, go + kb * 2, none⟩ = some (.int .i64 (lb : Int)) ∧ w'.cell? ⟨g, go + kb * 2 + 1, none⟩ = some (.int .i64 yo) ∧ Below w2.heap.size w2 w')
                    (first | (exact ⟨p0, p1, ya0, ya1, yb0, yb1, (Below.refl _ _).drew⟩) | (exact keepT6 hb (by assumption)))
                    ((go_at_call 78; refine (HCb.out _ (HBa.out.1.trans ((belT6 (by assumption)).mono HBa.out.1.size))).mono ?_; rintro e w' ⟨rfl, hb⟩))
                  obtain ⟨p0, p1, ya0, ya1, yb0, yb1, qb⟩ := (by assumption : _ ∧ _)
                  rename World => w3
                  have HBb : Hid (Below w.heap.size w w3 ∧ w.heap.size < w3.heap.size) := ⟨HBa.out.1.trans (qb.mono HBa.out.1.size), by have := qb.size; have := HBa.out.2; omega⟩
                  clear qb HBa HCb
                  have xa0 := bkeep HBb.out.1 xa0
                  have xa1 := bkeep HBb.out.1 xa1
                  have xa2 := bkeep HBb.out.1 xa2
                  have xb0 := bkeep HBb.out.1 xb0
                  have xb1 := bkeep HBb.out.1 xb1
                  have xb2 := bkeep HBb.out.1 xb2
                  go_wp2_with fail
                  have w3b : Below w3.heap.size w3 w3.drew := (Below.refl _ _).drew
                  refine wp_region_held_drew (S := (fun w' => w'.cell? ⟨w.heap.size, 1, none⟩ = some (.slice (some ⟨sb, so, none⟩) n.lines.length c') ∧ w'.cell? ⟨g, go + ka * 2, none⟩ = some (.int .i64 (la : Int)) ∧ w'.cell? ⟨g, go + kb * 2, none⟩ = some (.int .i64 (lb : Int)) ∧ w'.cell? ⟨sb, so + la * 3, none⟩ = some (.string A.name) ∧ w'.cell? ⟨sb, so + la * 3 + 1, none⟩ = some (.slice sa0 A.stops.length sa1) ∧ w'.cell? ⟨sb, so + la * 3 + 2, none⟩ = some (.slice ra0 A.runs.length ra1) ∧ w'.cell? ⟨sb, so + lb * 3, none⟩ = some (.string B.name) ∧ w'.cell? ⟨sb, so + lb * 3 + 1, none⟩ = some (.slice sb0 B.stops.length sb1) ∧ w'.cell? ⟨sb, so + lb * 3 + 2, none⟩ = some (.slice rb0 B.runs.length rb1) ∧ Below w3.heap.size w3 w')) (by kernel_rfl) ?_ (fun hHeld => ?_)
                  · exact ⟨p1, ya0, yb0, xa0, xa1, xa2, xb0, xb1, xb2, w3b⟩
                  refine wpAnyH_take (i := 0) (v := ?_) (by simp only [List.getElem?_toArray, List.getElem?_cons_zero]; rfl) (by kernel_rfl) (by kernel_rfl) (by kernel_rfl) (by exact fun _ _ _ h => h) (Or.inl ⟨by rfl, ?_⟩) (by assumption) ?_
                  rotate_left
                  · intro w' hSw; (try dsimp only at hSw); obtain ⟨e0, e1, e2, e3, e4, e5, e6, e7, e8, _⟩ := hSw
                    go_simp; try with_reducible rfl
                  try simp only [Act.put, List.setIfInBounds_toArray, List.set_cons_zero, List.set_cons_succ]
                  refine wpAnyH_take (i := 1) (v := ?_) (by simp only [List.getElem?_toArray, List.getElem?_cons_succ, List.getElem?_cons_zero]; rfl) (by kernel_rfl) (by kernel_rfl) (by kernel_rfl) (by exact fun _ _ _ h => h) (Or.inl ⟨by rfl, ?_⟩) (by assumption) ?_
                  rotate_left
                  · intro w' hSw; (try dsimp only at hSw); obtain ⟨e0, e1, e2, e3, e4, e5, e6, e7, e8, _⟩ := hSw
                    go_simp; try with_reducible rfl
                  try simp only [Act.put, List.setIfInBounds_toArray, List.set_cons_zero, List.set_cons_succ]
                  refine wpAnyH_take (i := 2) (v := ?_) (by simp only [List.getElem?_toArray, List.getElem?_cons_succ, List.getElem?_cons_zero]; rfl) (by kernel_rfl) (by kernel_rfl) (by kernel_rfl) (by exact fun _ _ _ h => h) (Or.inl ⟨by rfl, ?_⟩) (by assumption) ?_
                  rotate_left
                  · intro w' hSw; (try dsimp only at hSw); obtain ⟨e0, e1, e2, e3, e4, e5, e6, e7, e8, _⟩ := hSw
                    go_simp; try with_reducible rfl
                  try simp only [Act.put, List.setIfInBounds_toArray, List.set_cons_zero, List.set_cons_succ]
                  refine wpAnyH_take (i := 3) (v := ?_) (by simp only [List.getElem?_toArray, List.getElem?_cons_succ, List.getElem?_cons_zero]; rfl) (by kernel_rfl) (by kernel_rfl) (by kernel_rfl) (by exact fun _ _ _ h => h) (Or.inl ⟨by rfl, ?_⟩) (by assumption) ?_
                  rotate_left
                  · intro w' hSw; (try dsimp only at hSw); obtain ⟨e0, e1, e2, e3, e4, e5, e6, e7, e8, _⟩ := hSw
                    go_simp; try with_reducible rfl
                  try simp only [Act.put, List.setIfInBounds_toArray, List.set_cons_zero, List.set_cons_succ]
                  refine wpAnyH_take (i := 4) (v := ?_) (by simp only [List.getElem?_toArray, List.getElem?_cons_succ, List.getElem?_cons_zero]; rfl) (by kernel_rfl) (by kernel_rfl) (by kernel_rfl) (by exact fun _ _ _ h => h) (Or.inl ⟨by rfl, ?_⟩) (by assumption) ?_
                  rotate_left
                  · intro w' hSw; (try dsimp only at hSw); obtain ⟨e0, e1, e2, e3, e4, e5, e6, e7, e8, _⟩ := hSw
                    go_simp; try with_reducible rfl
                  try simp only [Act.put, List.setIfInBounds_toArray, List.set_cons_zero, List.set_cons_succ]
                  refine wpAnyH_take (i := 5) (v := ?_) (by simp only [List.getElem?_toArray, List.getElem?_cons_succ, List.getElem?_cons_zero]; rfl) (by kernel_rfl) (by kernel_rfl) (by kernel_rfl) (by exact fun _ _ _ h => h) (Or.inl ⟨by rfl, ?_⟩) (by assumption) ?_
                  rotate_left
                  · intro w' hSw; (try dsimp only at hSw); obtain ⟨e0, e1, e2, e3, e4, e5, e6, e7, e8, _⟩ := hSw
                    go_simp; try with_reducible rfl
                  try simp only [Act.put, List.setIfInBounds_toArray, List.set_cons_zero, List.set_cons_succ]
                  refine wpAnyH_take (i := 6) (v := ?_) (by simp only [List.getElem?_toArray, List.getElem?_cons_succ, List.getElem?_cons_zero]; rfl) (by kernel_rfl) (by kernel_rfl) (by kernel_rfl) (by exact fun _ _ _ h => h) (Or.inl ⟨by rfl, ?_⟩) (by assumption) ?_
                  rotate_left
                  · intro w' hSw; (try dsimp only at hSw); obtain ⟨e0, e1, e2, e3, e4, e5, e6, e7, e8, _⟩ := hSw
                    go_simp; try with_reducible rfl
                  try simp only [Act.put, List.setIfInBounds_toArray, List.set_cons_zero, List.set_cons_succ]
                  refine wpAnyH_take (i := 7) (v := ?_) (by simp only [List.getElem?_toArray, List.getElem?_cons_succ, List.getElem?_cons_zero]; rfl) (by kernel_rfl) (by kernel_rfl) (by kernel_rfl) (by exact fun _ _ _ h => h) (Or.inl ⟨by rfl, ?_⟩) (by assumption) ?_
                  rotate_left
                  · intro w' hSw; (try dsimp only at hSw); obtain ⟨e0, e1, e2, e3, e4, e5, e6, e7, e8, _⟩ := hSw
                    go_simp; try with_reducible rfl
                  try simp only [Act.put, List.setIfInBounds_toArray, List.set_cons_zero, List.set_cons_succ]
                  refine wpAnyH_take (i := 8) (v := ?_) (by simp only [List.getElem?_toArray, List.getElem?_cons_succ, List.getElem?_cons_zero]; rfl) (by kernel_rfl) (by kernel_rfl) (by kernel_rfl) (by exact fun _ _ _ h => h) (Or.inl ⟨by rfl, ?_⟩) (by assumption) ?_
                  rotate_left
                  · intro w' hSw; (try dsimp only at hSw); obtain ⟨e0, e1, e2, e3, e4, e5, e6, e7, e8, _⟩ := hSw
                    go_simp; try with_reducible rfl
                  try simp only [Act.put, List.setIfInBounds_toArray, List.set_cons_zero, List.set_cons_succ]
                  refine wpAnyH_take (i := 9) (v := ?_) (by simp only [List.getElem?_toArray, List.getElem?_cons_succ, List.getElem?_cons_zero]; rfl) (by kernel_rfl) (by kernel_rfl) (by kernel_rfl) (by exact fun _ _ _ h => h) (Or.inl ⟨by rfl, ?_⟩) (by assumption) ?_
                  rotate_left
                  · intro w' hSw; (try dsimp only at hSw); obtain ⟨e0, e1, e2, e3, e4, e5, e6, e7, e8, _⟩ := hSw
                    go_simp; try with_reducible rfl
                  try simp only [Act.put, List.setIfInBounds_toArray, List.set_cons_zero, List.set_cons_succ]
                  refine wpAnyH_take (i := 10) (v := ?_) (by simp only [List.getElem?_toArray, List.getElem?_cons_succ, List.getElem?_cons_zero]; rfl) (by kernel_rfl) (by kernel_rfl) (by kernel_rfl) (by exact fun _ _ _ h => h) (Or.inl ⟨by rfl, ?_⟩) (by assumption) ?_
                  rotate_left
                  · intro w' hSw; (try dsimp only at hSw); obtain ⟨e0, e1, e2, e3, e4, e5, e6, e7, e8, _⟩ := hSw
                    go_simp; try with_reducible rfl
                  try simp only [Act.put, List.setIfInBounds_toArray, List.set_cons_zero, List.set_cons_succ]
                  refine wpAnyH_take (i := 11) (v := ?_) (by simp only [List.getElem?_toArray, List.getElem?_cons_succ, List.getElem?_cons_zero]; rfl) (by kernel_rfl) (by kernel_rfl) (by kernel_rfl) (by exact fun _ _ _ h => h) (Or.inl ⟨by rfl, ?_⟩) (by assumption) ?_
                  rotate_left
                  · intro w' hSw; (try dsimp only at hSw); obtain ⟨e0, e1, e2, e3, e4, e5, e6, e7, e8, _⟩ := hSw
                    go_simp; try with_reducible rfl
                  try simp only [Act.put, List.setIfInBounds_toArray, List.set_cons_zero, List.set_cons_succ]
                  refine wpAnyH_take (i := 12) (v := ?_) (by simp only [List.getElem?_toArray, List.getElem?_cons_succ, List.getElem?_cons_zero]; rfl) (by kernel_rfl) (by kernel_rfl) (by kernel_rfl) (by exact fun _ _ _ h => h) (Or.inl ⟨by rfl, ?_⟩) (by assumption) ?_
                  rotate_left
                  · intro w' hSw; (try dsimp only at hSw); obtain ⟨e0, e1, e2, e3, e4, e5, e6, e7, e8, _⟩ := hSw
                    go_simp; try with_reducible rfl
                  try simp only [Act.put, List.setIfInBounds_toArray, List.set_cons_zero, List.set_cons_succ]
                  refine wpAnyH_take (i := 13) (v := ?_) (by simp only [List.getElem?_toArray, List.getElem?_cons_succ, List.getElem?_cons_zero]; rfl) (by kernel_rfl) (by kernel_rfl) (by kernel_rfl) (by exact fun _ _ _ h => h) (Or.inl ⟨by rfl, ?_⟩) (by assumption) ?_
                  rotate_left
                  · intro w' hSw; (try dsimp only at hSw); obtain ⟨e0, e1, e2, e3, e4, e5, e6, e7, e8, _⟩ := hSw
                    go_simp; try with_reducible rfl
                  try simp only [Act.put, List.setIfInBounds_toArray, List.set_cons_zero, List.set_cons_succ]
                  refine wpAnyH_take (i := 14) (v := ?_) (by simp only [List.getElem?_toArray, List.getElem?_cons_succ, List.getElem?_cons_zero]; rfl) (by kernel_rfl) (by kernel_rfl) (by kernel_rfl) (by exact fun _ _ _ h => h) (Or.inl ⟨by rfl, ?_⟩) (by assumption) ?_
                  rotate_left
                  · intro w' hSw; (try dsimp only at hSw); obtain ⟨e0, e1, e2, e3, e4, e5, e6, e7, e8, _⟩ := hSw
                    go_simp; try with_reducible rfl
                  try simp only [Act.put, List.setIfInBounds_toArray, List.set_cons_zero, List.set_cons_succ]
                  refine wpAnyH_take (i := 15) (v := ?_) (by simp only [List.getElem?_toArray, List.getElem?_cons_succ, List.getElem?_cons_zero]; rfl) (by kernel_rfl) (by kernel_rfl) (by kernel_rfl) (by exact fun _ _ _ h => h) (Or.inl ⟨by rfl, ?_⟩) (by assumption) ?_
                  rotate_left
                  · intro w' hSw; (try dsimp only at hSw); obtain ⟨e0, e1, e2, e3, e4, e5, e6, e7, e8, _⟩ := hSw
                    go_simp; try with_reducible rfl
                  try simp only [Act.put, List.setIfInBounds_toArray, List.set_cons_zero, List.set_cons_succ]
                  refine wpAnyH_take (i := 16) (v := ?_) (by simp only [List.getElem?_toArray, List.getElem?_cons_succ, List.getElem?_cons_zero]; rfl) (by kernel_rfl) (by kernel_rfl) (by kernel_rfl) (by exact fun _ _ _ h => h) (Or.inl ⟨by rfl, ?_⟩) (by assumption) ?_
                  rotate_left
                  · intro w' hSw; (try dsimp only at hSw); obtain ⟨e0, e1, e2, e3, e4, e5, e6, e7, e8, _⟩ := hSw
                    go_simp; try with_reducible rfl
                  try simp only [Act.put, List.setIfInBounds_toArray, List.set_cons_zero, List.set_cons_succ]
                  refine wpAnyH_ready (rs := [17]) (by kernel_rfl) (by simp) ?_
                  refine AllReadyH.cons (by simp only [List.getElem?_toArray, List.getElem?_cons_succ, List.getElem?_cons_zero]; rfl) (fun K hK => ?_) AllReadyH.nil
                  go_simp
                  go_at_call 79
                  refine (HFi.out _ (HBb.out.1.trans (w3b.mono HBb.out.1.size))).mono ?_
                  rintro e w5 ⟨rfl, hb⟩
                  have w5b : Below w3.heap.size w3 w5 := w3b.trans (hb.mono w3b.size)
                  have hSw5 : w5.cell? ⟨w.heap.size, 1, none⟩ = some (.slice (some ⟨sb, so, none⟩) n.lines.length c') ∧ w5.cell? ⟨g, go + ka * 2, none⟩ = some (.int .i64 (la : Int)) ∧ w5.cell? ⟨g, go + kb * 2, none⟩ = some (.int .i64 (lb : Int)) ∧ w5.cell? ⟨sb, so + la * 3, none⟩ = some (.string A.name) ∧ w5.cell? ⟨sb, so + la * 3 + 1, none⟩ = some (.slice sa0 A.stops.length sa1) ∧ w5.cell? ⟨sb, so + la * 3 + 2, none⟩ = some (.slice ra0 A.runs.length ra1) ∧ w5.cell? ⟨sb, so + lb * 3, none⟩ = some (.string B.name) ∧ w5.cell? ⟨sb, so + lb * 3 + 1, none⟩ = some (.slice sb0 B.stops.length sb1) ∧ w5.cell? ⟨sb, so + lb * 3 + 2, none⟩ = some (.slice rb0 B.runs.length rb1) ∧ Below w3.heap.size w3 w5 := ⟨bkeep w5b p1, bkeep w5b ya0, bkeep w5b yb0, bkeep w5b xa0, bkeep w5b xa1, bkeep w5b xa2, bkeep w5b xb0, bkeep w5b xb1, bkeep w5b xb2, w5b⟩
                  clear hb
                  go_wp2_with fail
                  refine hK.out _ _ hSw5 (fun hH17 => ?_)
                  clear hK K
                  try simp only [Act.put, List.setIfInBounds_toArray, List.set_cons_zero, List.set_cons_succ]
                  refine wpAnyH_take (i := 18) (v := ?_) (by simp only [List.getElem?_toArray, List.getElem?_cons_succ, List.getElem?_cons_zero]; rfl) (by kernel_rfl) (by kernel_rfl) (by kernel_rfl) (by exact fun _ _ _ h => h) (Or.inl ⟨by rfl, ?_⟩) (by assumption) ?_
                  rotate_left
                  · intro w' hSw; (try dsimp only at hSw); obtain ⟨e0, e1, e2, e3, e4, e5, e6, e7, e8, _⟩ := hSw
                    go_simp; try with_reducible rfl
                  try simp only [Act.put, List.setIfInBounds_toArray, List.set_cons_zero, List.set_cons_succ]
                  refine wpAnyH_take (i := 19) (v := ?_) (by simp only [List.getElem?_toArray, List.getElem?_cons_succ, List.getElem?_cons_zero]; rfl) (by kernel_rfl) (by kernel_rfl) (by kernel_rfl) (by exact fun _ _ _ h => h) (Or.inl ⟨by rfl, ?_⟩) (by assumption) ?_
                  rotate_left
                  · intro w' hSw; (try dsimp only at hSw); obtain ⟨e0, e1, e2, e3, e4, e5, e6, e7, e8, _⟩ := hSw
                    go_simp; try with_reducible rfl
                  try simp only [Act.put, List.setIfInBounds_toArray, List.set_cons_zero, List.set_cons_succ]
                  refine wpAnyH_take (i := 20) (v := ?_) (by simp only [List.getElem?_toArray, List.getElem?_cons_succ, List.getElem?_cons_zero]; rfl) (by kernel_rfl) (by kernel_rfl) (by kernel_rfl) (by exact fun _ _ _ h => h) (Or.inl ⟨by rfl, ?_⟩) (by assumption) ?_
                  rotate_left
                  · intro w' hSw; (try dsimp only at hSw); obtain ⟨e0, e1, e2, e3, e4, e5, e6, e7, e8, _⟩ := hSw
                    go_simp; try with_reducible rfl
                  try simp only [Act.put, List.setIfInBounds_toArray, List.set_cons_zero, List.set_cons_succ]
                  refine wpAnyH_take (i := 21) (v := ?_) (by simp only [List.getElem?_toArray, List.getElem?_cons_succ, List.getElem?_cons_zero]; rfl) (by kernel_rfl) (by kernel_rfl) (by kernel_rfl) (by exact fun _ _ _ h => h) (Or.inl ⟨by rfl, ?_⟩) (by assumption) ?_
                  rotate_left
                  · intro w' hSw; (try dsimp only at hSw); obtain ⟨e0, e1, e2, e3, e4, e5, e6, e7, e8, _⟩ := hSw
                    go_simp; try with_reducible rfl
                  try simp only [Act.put, List.setIfInBounds_toArray, List.set_cons_zero, List.set_cons_succ]
                  refine wpAnyH_take (i := 22) (v := ?_) (by simp only [List.getElem?_toArray, List.getElem?_cons_succ, List.getElem?_cons_zero]; rfl) (by kernel_rfl) (by kernel_rfl) (by kernel_rfl) (by exact fun _ _ _ h => h) (Or.inl ⟨by rfl, ?_⟩) (by assumption) ?_
                  rotate_left
                  · intro w' hSw; (try dsimp only at hSw); obtain ⟨e0, e1, e2, e3, e4, e5, e6, e7, e8, _⟩ := hSw
                    go_simp; try with_reducible rfl
                  try simp only [Act.put, List.setIfInBounds_toArray, List.set_cons_zero, List.set_cons_succ]
                  refine wpAnyH_take (i := 23) (v := ?_) (by simp only [List.getElem?_toArray, List.getElem?_cons_succ, List.getElem?_cons_zero]; rfl) (by kernel_rfl) (by kernel_rfl) (by kernel_rfl) (by exact fun _ _ _ h => h) (Or.inl ⟨by rfl, ?_⟩) (by assumption) ?_
                  rotate_left
                  · intro w' hSw; (try dsimp only at hSw); obtain ⟨e0, e1, e2, e3, e4, e5, e6, e7, e8, _⟩ := hSw
                    go_simp; try with_reducible rfl
                  try simp only [Act.put, List.setIfInBounds_toArray, List.set_cons_zero, List.set_cons_succ]
                  refine wpAnyH_take (i := 24) (v := ?_) (by simp only [List.getElem?_toArray, List.getElem?_cons_succ, List.getElem?_cons_zero]; rfl) (by kernel_rfl) (by kernel_rfl) (by kernel_rfl) (by exact fun _ _ _ h => h) (Or.inl ⟨by rfl, ?_⟩) (by assumption) ?_
                  rotate_left
                  · intro w' hSw; (try dsimp only at hSw); obtain ⟨e0, e1, e2, e3, e4, e5, e6, e7, e8, _⟩ := hSw
                    go_simp; try with_reducible rfl
                  try simp only [Act.put, List.setIfInBounds_toArray, List.set_cons_zero, List.set_cons_succ]
                  refine wpAnyH_take (i := 25) (v := ?_) (by simp only [List.getElem?_toArray, List.getElem?_cons_succ, List.getElem?_cons_zero]; rfl) (by kernel_rfl) (by kernel_rfl) (by kernel_rfl) (by exact fun _ _ _ h => h) (Or.inl ⟨by rfl, ?_⟩) (by assumption) ?_
                  rotate_left
                  · intro w' hSw; (try dsimp only at hSw); obtain ⟨e0, e1, e2, e3, e4, e5, e6, e7, e8, _⟩ := hSw
                    go_simp; try with_reducible rfl
                  try simp only [Act.put, List.setIfInBounds_toArray, List.set_cons_zero, List.set_cons_succ]
                  refine wpAnyH_take (i := 26) (v := ?_) (by simp only [List.getElem?_toArray, List.getElem?_cons_succ, List.getElem?_cons_zero]; rfl) (by kernel_rfl) (by kernel_rfl) (by kernel_rfl) (by exact fun _ _ _ h => h) (Or.inl ⟨by rfl, ?_⟩) (by assumption) ?_
                  rotate_left
                  · intro w' hSw; (try dsimp only at hSw); obtain ⟨e0, e1, e2, e3, e4, e5, e6, e7, e8, _⟩ := hSw
                    go_simp; try with_reducible rfl
                  try simp only [Act.put, List.setIfInBounds_toArray, List.set_cons_zero, List.set_cons_succ]
                  refine wpAnyH_take (i := 27) (v := ?_) (by simp only [List.getElem?_toArray, List.getElem?_cons_succ, List.getElem?_cons_zero]; rfl) (by kernel_rfl) (by kernel_rfl) (by kernel_rfl) (by exact fun _ _ _ h => h) (Or.inl ⟨by rfl, ?_⟩) (by assumption) ?_
                  rotate_left
                  · intro w' hSw; (try dsimp only at hSw); obtain ⟨e0, e1, e2, e3, e4, e5, e6, e7, e8, _⟩ := hSw
                    go_simp; try with_reducible rfl
                  try simp only [Act.put, List.setIfInBounds_toArray, List.set_cons_zero, List.set_cons_succ]
                  refine wpAnyH_take (i := 28) (v := ?_) (by simp only [List.getElem?_toArray, List.getElem?_cons_succ, List.getElem?_cons_zero]; rfl) (by kernel_rfl) (by kernel_rfl) (by kernel_rfl) (by exact fun _ _ _ h => h) (Or.inl ⟨by rfl, ?_⟩) (by assumption) ?_
                  rotate_left
                  · intro w' hSw; (try dsimp only at hSw); obtain ⟨e0, e1, e2, e3, e4, e5, e6, e7, e8, _⟩ := hSw
                    go_simp; try with_reducible rfl
                  try simp only [Act.put, List.setIfInBounds_toArray, List.set_cons_zero, List.set_cons_succ]
                  refine wpAnyH_take (i := 29) (v := ?_) (by simp only [List.getElem?_toArray, List.getElem?_cons_succ, List.getElem?_cons_zero]; rfl) (by kernel_rfl) (by kernel_rfl) (by kernel_rfl) (by exact fun _ _ _ h => h) (Or.inl ⟨by rfl, ?_⟩) (by assumption) ?_
                  rotate_left
                  · intro w' hSw; (try dsimp only at hSw); obtain ⟨e0, e1, e2, e3, e4, e5, e6, e7, e8, _⟩ := hSw
                    go_simp; try with_reducible rfl
                  try simp only [Act.put, List.setIfInBounds_toArray, List.set_cons_zero, List.set_cons_succ]
                  refine wpAnyH_ready (rs := [30]) (by kernel_rfl) (by simp) ?_
                  refine AllReadyH.cons (by simp only [List.getElem?_toArray, List.getElem?_cons_succ, List.getElem?_cons_zero]; rfl) (fun K hK => ?_) AllReadyH.nil
                  go_simp
                  go_at_call 80
                  refine (HLa.out _ (HBb.out.1.trans (w5b.mono HBb.out.1.size))).mono ?_
                  rintro e w6 ⟨rfl, hb⟩
                  have w6b : Below w3.heap.size w3 w6 := w5b.trans (hb.mono w5b.size)
                  have hSw6 : w6.cell? ⟨w.heap.size, 1, none⟩ = some (.slice (some ⟨sb, so, none⟩) n.lines.length c') ∧ w6.cell? ⟨g, go + ka * 2, none⟩ = some (.int .i64 (la : Int)) ∧ w6.cell? ⟨g, go + kb * 2, none⟩ = some (.int .i64 (lb : Int)) ∧ w6.cell? ⟨sb, so + la * 3, none⟩ = some (.string A.name) ∧ w6.cell? ⟨sb, so + la * 3 + 1, none⟩ = some (.slice sa0 A.stops.length sa1) ∧ w6.cell? ⟨sb, so + la * 3 + 2, none⟩ = some (.slice ra0 A.runs.length ra1) ∧ w6.cell? ⟨sb, so + lb * 3, none⟩ = some (.string B.name) ∧ w6.cell? ⟨sb, so + lb * 3 + 1, none⟩ = some (.slice sb0 B.stops.length sb1) ∧ w6.cell? ⟨sb, so + lb * 3 + 2, none⟩ = some (.slice rb0 B.runs.length rb1) ∧ Below w3.heap.size w3 w6 := ⟨bkeep w6b p1, bkeep w6b ya0, bkeep w6b yb0, bkeep w6b xa0, bkeep w6b xa1, bkeep w6b xa2, bkeep w6b xb0, bkeep w6b xb1, bkeep w6b xb2, w6b⟩
                  clear hb
                  go_wp2_with fail
                  refine hK.out _ _ hSw6 (fun hH30 => ?_)
                  clear hK K
                  try simp only [Act.put, List.setIfInBounds_toArray, List.set_cons_zero, List.set_cons_succ]
                  refine wpAnyH_take (i := 31) (v := ?_) (by simp only [List.getElem?_toArray, List.getElem?_cons_succ, List.getElem?_cons_zero]; rfl) (by kernel_rfl) (by kernel_rfl) (by kernel_rfl) (by exact fun _ _ _ h => h) (Or.inl ⟨by rfl, ?_⟩) (by assumption) ?_
                  rotate_left
                  · intro w' hSw; (try dsimp only at hSw); obtain ⟨e0, e1, e2, e3, e4, e5, e6, e7, e8, _⟩ := hSw
                    go_simp; try with_reducible rfl
                  try simp only [Act.put, List.setIfInBounds_toArray, List.set_cons_zero, List.set_cons_succ]
                  refine wpAnyH_done (by kernel_rfl) ?_ _
                  have HBf : Hid (Below w.heap.size w w6) := HBb.out.1.trans ((w6b).mono HBb.out.1.size)
                  go_wp2_with fail
                  go_ret2
                  exact ⟨rfl, HBf.out⟩
                · have ht : twB n p xs ka kb stop wk = true := twB_iff.2 (HTw.out.2 ⟨HSt.out (by omega), hab, by omega, by omega, by omega, hlast⟩)
                  rw [HTf.out ht, ht]
                  rw [show decide (fstIdx stop B.stops = (B.stops.length : Int) - 1) = false from decide_eq_false hlast] at HLa
                  clear ht HTw HTf HSt
                  have hw0 : 0 ≤ wk := by omega
                  have hd := twD_in (r := rA) (walk := wk) (tgt := rB) hp.1
                  have HIff := Lib.hid (fun j (h0 : 0 ≤ j) (h1 : j ≤ twD rA wk rB p) => tw_iff (r := rA) (walk := wk) (tgt := rB) hp.1 ⟨by omega, hIb.2⟩ h0 h1)
                  generalize twD rA wk rB p = D at *
                  have hp0 : ¬ p = 0 := by omega
                  have hp0' : (p == 0) = false := by simp; omega
                  obtain ⟨D, rfl⟩ := Int.eq_ofNat_of_zero_le hd.1
                  go_enter Try.func32, Try.ntmps32
                  go_wp2_with fail
                  go_at_call 77
                  refine (HG.out _ ((Below.refl _ _).alloc (Nat.le_refl _) _)).mono ?_
                  rintro e w1 ⟨rfl, hb1⟩
                  have HB1 : Hid (Below w.heap.size w w1 ∧ w.heap.size < w1.heap.size) := ⟨((Below.refl _ _).alloc (Nat.le_refl _) _).trans (hb1.mono (by simp)), by have := hb1.size; simp at this; omega⟩
                  have p0 : w1.cell? ⟨w.heap.size, 0, none⟩ = some (.slice a0 n.stops.length c) := bkeep hb1 (by go_simp)
                  have p1 : w1.cell? ⟨w.heap.size, 1, none⟩ = some (.slice (some ⟨sb, so, none⟩) n.lines.length c') := bkeep hb1 (by go_simp)
                  clear hb1 HG
                  have ya0 := bkeep HB1.out.1 ya0
                  have ya1 := bkeep HB1.out.1 ya1
                  have yb0 := bkeep HB1.out.1 yb0
                  have yb1 := bkeep HB1.out.1 yb1
                  go_wp2_with fail
                  go_region_held3 (fun w' => w'.cell? ⟨w.heap.size, 0, none⟩ = some (.slice a0 n.stops.length c) ∧ w'.cell? ⟨w.heap.size, 1, none⟩ = some (.slice (some ⟨sb, so, none⟩) n.lines.length c') ∧ w'.cell? ⟨g, go + ka * 2, none⟩ = some (.int .i64 (la : Int)) ∧ w'.cell? ⟨g, go + ka * 2 + 1, none⟩ = some (.int .i64 xo) ∧ w'.cell? ⟨g, go + kb * 2, none⟩ = some (.int .i64 (lb : Int)) ∧ w'.cell? ⟨g, go + kb * 2 + 1, none⟩ = some (.int .i64 yo) ∧ Below w1.heap.size w1 w')
                    (first | (exact ⟨p0, p1, ya0, ya1, yb0, yb1, (Below.refl _ _).drew⟩) | (exact keepT6 hb (by assumption)))
                    ((go_at_call 78; refine (HCa.out _ (HB1.out.1.trans ((belT6 (by assumption)).mono HB1.out.1.size))).mono ?_; rintro e w' ⟨rfl, hb⟩))
                  obtain ⟨p0, p1, ya0, ya1, yb0, yb1, qb⟩ := (by assumption : _ ∧ _)
                  rename World => w2
                  have HBa : Hid (Below w.heap.size w w2 ∧ w.heap.size < w2.heap.size) := ⟨HB1.out.1.trans (qb.mono HB1.out.1.size), by have := qb.size; have := HB1.out.2; omega⟩
                  clear qb HB1 HCa
                  go_wp2_with fail
                  go_region_held3 (fun w' => w'.cell? ⟨w.heap.size, 0, none⟩ = some (.slice a0 n.stops.length c) ∧ w'.cell? ⟨w.heap.size, 1, none⟩ = some (.slice (some ⟨sb, so, none⟩) n.lines.length c') ∧ w'.cell? ⟨g, go + ka * 2, none⟩ = some (.int .i64 (la : Int)) ∧ w'.cell? ⟨g, go + ka * 2 + 1, none⟩ = some (.int .i64 xo) ∧ w'.cell? ⟨g, go + kb * 2, none⟩ = some (.int .i64 (lb : Int)) ∧ w'.cell? ⟨g, go + kb * 2 + 1, none⟩ = some (.int .i64 yo) ∧ Below w2.heap.size w2 w')
                    (first | (exact ⟨p0, p1, ya0, ya1, yb0, yb1, (Below.refl _ _).drew⟩) | (exact keepT6 hb (by assumption)))
                    ((go_at_call 78; refine (HCb.out _ (HBa.out.1.trans ((belT6 (by assumption)).mono HBa.out.1.size))).mono ?_; rintro e w' ⟨rfl, hb⟩))
                  obtain ⟨p0, p1, ya0, ya1, yb0, yb1, qb⟩ := (by assumption : _ ∧ _)
                  rename World => w3
                  have HBb : Hid (Below w.heap.size w w3 ∧ w.heap.size < w3.heap.size) := ⟨HBa.out.1.trans (qb.mono HBa.out.1.size), by have := qb.size; have := HBa.out.2; omega⟩
                  clear qb HBa HCb
                  have xa0 := bkeep HBb.out.1 xa0
                  have xa1 := bkeep HBb.out.1 xa1
                  have xa2 := bkeep HBb.out.1 xa2
                  have xb0 := bkeep HBb.out.1 xb0
                  have xb1 := bkeep HBb.out.1 xb1
                  have xb2 := bkeep HBb.out.1 xb2
                  go_wp2_with fail
                  have w3b : Below w3.heap.size w3 w3.drew := (Below.refl _ _).drew
                  refine wp_region_held_drew (S := (fun w' => w'.cell? ⟨w.heap.size, 1, none⟩ = some (.slice (some ⟨sb, so, none⟩) n.lines.length c') ∧ w'.cell? ⟨g, go + ka * 2, none⟩ = some (.int .i64 (la : Int)) ∧ w'.cell? ⟨g, go + kb * 2, none⟩ = some (.int .i64 (lb : Int)) ∧ w'.cell? ⟨sb, so + la * 3, none⟩ = some (.string A.name) ∧ w'.cell? ⟨sb, so + la * 3 + 1, none⟩ = some (.slice sa0 A.stops.length sa1) ∧ w'.cell? ⟨sb, so + la * 3 + 2, none⟩ = some (.slice ra0 A.runs.length ra1) ∧ w'.cell? ⟨sb, so + lb * 3, none⟩ = some (.string B.name) ∧ w'.cell? ⟨sb, so + lb * 3 + 1, none⟩ = some (.slice sb0 B.stops.length sb1) ∧ w'.cell? ⟨sb, so + lb * 3 + 2, none⟩ = some (.slice rb0 B.runs.length rb1) ∧ Below w3.heap.size w3 w')) (by kernel_rfl) ?_ (fun hHeld => ?_)
                  · exact ⟨p1, ya0, yb0, xa0, xa1, xa2, xb0, xb1, xb2, w3b⟩
                  refine wpAnyH_take (i := 0) (v := ?_) (by simp only [List.getElem?_toArray, List.getElem?_cons_zero]; rfl) (by kernel_rfl) (by kernel_rfl) (by kernel_rfl) (by exact fun _ _ _ h => h) (Or.inl ⟨by rfl, ?_⟩) (by assumption) ?_
                  rotate_left
                  · intro w' hSw; (try dsimp only at hSw); obtain ⟨e0, e1, e2, e3, e4, e5, e6, e7, e8, _⟩ := hSw
                    go_simp; try with_reducible rfl
                  try simp only [Act.put, List.setIfInBounds_toArray, List.set_cons_zero, List.set_cons_succ]
                  refine wpAnyH_take (i := 1) (v := ?_) (by simp only [List.getElem?_toArray, List.getElem?_cons_succ, List.getElem?_cons_zero]; rfl) (by kernel_rfl) (by kernel_rfl) (by kernel_rfl) (by exact fun _ _ _ h => h) (Or.inl ⟨by rfl, ?_⟩) (by assumption) ?_
                  rotate_left
                  · intro w' hSw; (try dsimp only at hSw); obtain ⟨e0, e1, e2, e3, e4, e5, e6, e7, e8, _⟩ := hSw
                    go_simp; try with_reducible rfl
                  try simp only [Act.put, List.setIfInBounds_toArray, List.set_cons_zero, List.set_cons_succ]
                  refine wpAnyH_take (i := 2) (v := ?_) (by simp only [List.getElem?_toArray, List.getElem?_cons_succ, List.getElem?_cons_zero]; rfl) (by kernel_rfl) (by kernel_rfl) (by kernel_rfl) (by exact fun _ _ _ h => h) (Or.inl ⟨by rfl, ?_⟩) (by assumption) ?_
                  rotate_left
                  · intro w' hSw; (try dsimp only at hSw); obtain ⟨e0, e1, e2, e3, e4, e5, e6, e7, e8, _⟩ := hSw
                    go_simp; try with_reducible rfl
                  try simp only [Act.put, List.setIfInBounds_toArray, List.set_cons_zero, List.set_cons_succ]
                  refine wpAnyH_take (i := 3) (v := ?_) (by simp only [List.getElem?_toArray, List.getElem?_cons_succ, List.getElem?_cons_zero]; rfl) (by kernel_rfl) (by kernel_rfl) (by kernel_rfl) (by exact fun _ _ _ h => h) (Or.inl ⟨by rfl, ?_⟩) (by assumption) ?_
                  rotate_left
                  · intro w' hSw; (try dsimp only at hSw); obtain ⟨e0, e1, e2, e3, e4, e5, e6, e7, e8, _⟩ := hSw
                    go_simp; try with_reducible rfl
                  try simp only [Act.put, List.setIfInBounds_toArray, List.set_cons_zero, List.set_cons_succ]
                  refine wpAnyH_take (i := 4) (v := ?_) (by simp only [List.getElem?_toArray, List.getElem?_cons_succ, List.getElem?_cons_zero]; rfl) (by kernel_rfl) (by kernel_rfl) (by kernel_rfl) (by exact fun _ _ _ h => h) (Or.inl ⟨by rfl, ?_⟩) (by assumption) ?_
                  rotate_left
                  · intro w' hSw; (try dsimp only at hSw); obtain ⟨e0, e1, e2, e3, e4, e5, e6, e7, e8, _⟩ := hSw
                    go_simp; try with_reducible rfl
                  try simp only [Act.put, List.setIfInBounds_toArray, List.set_cons_zero, List.set_cons_succ]
                  refine wpAnyH_take (i := 5) (v := ?_) (by simp only [List.getElem?_toArray, List.getElem?_cons_succ, List.getElem?_cons_zero]; rfl) (by kernel_rfl) (by kernel_rfl) (by kernel_rfl) (by exact fun _ _ _ h => h) (Or.inl ⟨by rfl, ?_⟩) (by assumption) ?_
                  rotate_left
                  · intro w' hSw; (try dsimp only at hSw); obtain ⟨e0, e1, e2, e3, e4, e5, e6, e7, e8, _⟩ := hSw
                    go_simp; try with_reducible rfl
                  try simp only [Act.put, List.setIfInBounds_toArray, List.set_cons_zero, List.set_cons_succ]
                  refine wpAnyH_take (i := 6) (v := ?_) (by simp only [List.getElem?_toArray, List.getElem?_cons_succ, List.getElem?_cons_zero]; rfl) (by kernel_rfl) (by kernel_rfl) (by kernel_rfl) (by exact fun _ _ _ h => h) (Or.inl ⟨by rfl, ?_⟩) (by assumption) ?_
                  rotate_left
                  · intro w' hSw; (try dsimp only at hSw); obtain ⟨e0, e1, e2, e3, e4, e5, e6, e7, e8, _⟩ := hSw
                    go_simp; try with_reducible rfl
                  try simp only [Act.put, List.setIfInBounds_toArray, List.set_cons_zero, List.set_cons_succ]
                  refine wpAnyH_take (i := 7) (v := ?_) (by simp only [List.getElem?_toArray, List.getElem?_cons_succ, List.getElem?_cons_zero]; rfl) (by kernel_rfl) (by kernel_rfl) (by kernel_rfl) (by exact fun _ _ _ h => h) (Or.inl ⟨by rfl, ?_⟩) (by assumption) ?_
                  rotate_left
                  · intro w' hSw; (try dsimp only at hSw); obtain ⟨e0, e1, e2, e3, e4, e5, e6, e7, e8, _⟩ := hSw
                    go_simp; try with_reducible rfl
                  try simp only [Act.put, List.setIfInBounds_toArray, List.set_cons_zero, List.set_cons_succ]
                  refine wpAnyH_take (i := 8) (v := ?_) (by simp only [List.getElem?_toArray, List.getElem?_cons_succ, List.getElem?_cons_zero]; rfl) (by kernel_rfl) (by kernel_rfl) (by kernel_rfl) (by exact fun _ _ _ h => h) (Or.inl ⟨by rfl, ?_⟩) (by assumption) ?_
                  rotate_left
                  · intro w' hSw; (try dsimp only at hSw); obtain ⟨e0, e1, e2, e3, e4, e5, e6, e7, e8, _⟩ := hSw
                    go_simp; try with_reducible rfl
                  try simp only [Act.put, List.setIfInBounds_toArray, List.set_cons_zero, List.set_cons_succ]
                  refine wpAnyH_take (i := 9) (v := ?_) (by simp only [List.getElem?_toArray, List.getElem?_cons_succ, List.getElem?_cons_zero]; rfl) (by kernel_rfl) (by kernel_rfl) (by kernel_rfl) (by exact fun _ _ _ h => h) (Or.inl ⟨by rfl, ?_⟩) (by assumption) ?_
                  rotate_left
                  · intro w' hSw; (try dsimp only at hSw); obtain ⟨e0, e1, e2, e3, e4, e5, e6, e7, e8, _⟩ := hSw
                    go_simp; try with_reducible rfl
                  try simp only [Act.put, List.setIfInBounds_toArray, List.set_cons_zero, List.set_cons_succ]
                  refine wpAnyH_take (i := 10) (v := ?_) (by simp only [List.getElem?_toArray, List.getElem?_cons_succ, List.getElem?_cons_zero]; rfl) (by kernel_rfl) (by kernel_rfl) (by kernel_rfl) (by exact fun _ _ _ h => h) (Or.inl ⟨by rfl, ?_⟩) (by assumption) ?_
                  rotate_left
                  · intro w' hSw; (try dsimp only at hSw); obtain ⟨e0, e1, e2, e3, e4, e5, e6, e7, e8, _⟩ := hSw
                    go_simp; try with_reducible rfl
                  try simp only [Act.put, List.setIfInBounds_toArray, List.set_cons_zero, List.set_cons_succ]
                  refine wpAnyH_take (i := 11) (v := ?_) (by simp only [List.getElem?_toArray, List.getElem?_cons_succ, List.getElem?_cons_zero]; rfl) (by kernel_rfl) (by kernel_rfl) (by kernel_rfl) (by exact fun _ _ _ h => h) (Or.inl ⟨by rfl, ?_⟩) (by assumption) ?_
                  rotate_left
                  · intro w' hSw; (try dsimp only at hSw); obtain ⟨e0, e1, e2, e3, e4, e5, e6, e7, e8, _⟩ := hSw
                    go_simp; try with_reducible rfl
                  try simp only [Act.put, List.setIfInBounds_toArray, List.set_cons_zero, List.set_cons_succ]
                  refine wpAnyH_take (i := 12) (v := ?_) (by simp only [List.getElem?_toArray, List.getElem?_cons_succ, List.getElem?_cons_zero]; rfl) (by kernel_rfl) (by kernel_rfl) (by kernel_rfl) (by exact fun _ _ _ h => h) (Or.inl ⟨by rfl, ?_⟩) (by assumption) ?_
                  rotate_left
                  · intro w' hSw; (try dsimp only at hSw); obtain ⟨e0, e1, e2, e3, e4, e5, e6, e7, e8, _⟩ := hSw
                    go_simp; try with_reducible rfl
                  try simp only [Act.put, List.setIfInBounds_toArray, List.set_cons_zero, List.set_cons_succ]
                  refine wpAnyH_take (i := 13) (v := ?_) (by simp only [List.getElem?_toArray, List.getElem?_cons_succ, List.getElem?_cons_zero]; rfl) (by kernel_rfl) (by kernel_rfl) (by kernel_rfl) (by exact fun _ _ _ h => h) (Or.inl ⟨by rfl, ?_⟩) (by assumption) ?_
                  rotate_left
                  · intro w' hSw; (try dsimp only at hSw); obtain ⟨e0, e1, e2, e3, e4, e5, e6, e7, e8, _⟩ := hSw
                    go_simp; try with_reducible rfl
                  try simp only [Act.put, List.setIfInBounds_toArray, List.set_cons_zero, List.set_cons_succ]
                  refine wpAnyH_take (i := 14) (v := ?_) (by simp only [List.getElem?_toArray, List.getElem?_cons_succ, List.getElem?_cons_zero]; rfl) (by kernel_rfl) (by kernel_rfl) (by kernel_rfl) (by exact fun _ _ _ h => h) (Or.inl ⟨by rfl, ?_⟩) (by assumption) ?_
                  rotate_left
                  · intro w' hSw; (try dsimp only at hSw); obtain ⟨e0, e1, e2, e3, e4, e5, e6, e7, e8, _⟩ := hSw
                    go_simp; try with_reducible rfl
                  try simp only [Act.put, List.setIfInBounds_toArray, List.set_cons_zero, List.set_cons_succ]
                  refine wpAnyH_take (i := 15) (v := ?_) (by simp only [List.getElem?_toArray, List.getElem?_cons_succ, List.getElem?_cons_zero]; rfl) (by kernel_rfl) (by kernel_rfl) (by kernel_rfl) (by exact fun _ _ _ h => h) (Or.inl ⟨by rfl, ?_⟩) (by assumption) ?_
                  rotate_left
                  · intro w' hSw; (try dsimp only at hSw); obtain ⟨e0, e1, e2, e3, e4, e5, e6, e7, e8, _⟩ := hSw
                    go_simp; try with_reducible rfl
                  try simp only [Act.put, List.setIfInBounds_toArray, List.set_cons_zero, List.set_cons_succ]
                  refine wpAnyH_take (i := 16) (v := ?_) (by simp only [List.getElem?_toArray, List.getElem?_cons_succ, List.getElem?_cons_zero]; rfl) (by kernel_rfl) (by kernel_rfl) (by kernel_rfl) (by exact fun _ _ _ h => h) (Or.inl ⟨by rfl, ?_⟩) (by assumption) ?_
                  rotate_left
                  · intro w' hSw; (try dsimp only at hSw); obtain ⟨e0, e1, e2, e3, e4, e5, e6, e7, e8, _⟩ := hSw
                    go_simp; try with_reducible rfl
                  try simp only [Act.put, List.setIfInBounds_toArray, List.set_cons_zero, List.set_cons_succ]
                  refine wpAnyH_ready (rs := [17]) (by kernel_rfl) (by simp) ?_
                  refine AllReadyH.cons (by simp only [List.getElem?_toArray, List.getElem?_cons_succ, List.getElem?_cons_zero]; rfl) (fun K hK => ?_) AllReadyH.nil
                  go_simp
                  go_at_call 79
                  refine (HFi.out _ (HBb.out.1.trans (w3b.mono HBb.out.1.size))).mono ?_
                  rintro e w5 ⟨rfl, hb⟩
                  have w5b : Below w3.heap.size w3 w5 := w3b.trans (hb.mono w3b.size)
                  have hSw5 : w5.cell? ⟨w.heap.size, 1, none⟩ = some (.slice (some ⟨sb, so, none⟩) n.lines.length c') ∧ w5.cell? ⟨g, go + ka * 2, none⟩ = some (.int .i64 (la : Int)) ∧ w5.cell? ⟨g, go + kb * 2, none⟩ = some (.int .i64 (lb : Int)) ∧ w5.cell? ⟨sb, so + la * 3, none⟩ = some (.string A.name) ∧ w5.cell? ⟨sb, so + la * 3 + 1, none⟩ = some (.slice sa0 A.stops.length sa1) ∧ w5.cell? ⟨sb, so + la * 3 + 2, none⟩ = some (.slice ra0 A.runs.length ra1) ∧ w5.cell? ⟨sb, so + lb * 3, none⟩ = some (.string B.name) ∧ w5.cell? ⟨sb, so + lb * 3 + 1, none⟩ = some (.slice sb0 B.stops.length sb1) ∧ w5.cell? ⟨sb, so + lb * 3 + 2, none⟩ = some (.slice rb0 B.runs.length rb1) ∧ Below w3.heap.size w3 w5 := ⟨bkeep w5b p1, bkeep w5b ya0, bkeep w5b yb0, bkeep w5b xa0, bkeep w5b xa1, bkeep w5b xa2, bkeep w5b xb0, bkeep w5b xb1, bkeep w5b xb2, w5b⟩
                  clear hb
                  go_wp2_with fail
                  refine hK.out _ _ hSw5 (fun hH17 => ?_)
                  clear hK K
                  try simp only [Act.put, List.setIfInBounds_toArray, List.set_cons_zero, List.set_cons_succ]
                  refine wpAnyH_take (i := 18) (v := ?_) (by simp only [List.getElem?_toArray, List.getElem?_cons_succ, List.getElem?_cons_zero]; rfl) (by kernel_rfl) (by kernel_rfl) (by kernel_rfl) (by exact fun _ _ _ h => h) (Or.inl ⟨by rfl, ?_⟩) (by assumption) ?_
                  rotate_left
                  · intro w' hSw; (try dsimp only at hSw); obtain ⟨e0, e1, e2, e3, e4, e5, e6, e7, e8, _⟩ := hSw
                    go_simp; try with_reducible rfl
                  try simp only [Act.put, List.setIfInBounds_toArray, List.set_cons_zero, List.set_cons_succ]
                  refine wpAnyH_take (i := 19) (v := ?_) (by simp only [List.getElem?_toArray, List.getElem?_cons_succ, List.getElem?_cons_zero]; rfl) (by kernel_rfl) (by kernel_rfl) (by kernel_rfl) (by exact fun _ _ _ h => h) (Or.inl ⟨by rfl, ?_⟩) (by assumption) ?_
                  rotate_left
                  · intro w' hSw; (try dsimp only at hSw); obtain ⟨e0, e1, e2, e3, e4, e5, e6, e7, e8, _⟩ := hSw
                    go_simp; try with_reducible rfl
                  try simp only [Act.put, List.setIfInBounds_toArray, List.set_cons_zero, List.set_cons_succ]
                  refine wpAnyH_take (i := 20) (v := ?_) (by simp only [List.getElem?_toArray, List.getElem?_cons_succ, List.getElem?_cons_zero]; rfl) (by kernel_rfl) (by kernel_rfl) (by kernel_rfl) (by exact fun _ _ _ h => h) (Or.inl ⟨by rfl, ?_⟩) (by assumption) ?_
                  rotate_left
                  · intro w' hSw; (try dsimp only at hSw); obtain ⟨e0, e1, e2, e3, e4, e5, e6, e7, e8, _⟩ := hSw
                    go_simp; try with_reducible rfl
                  try simp only [Act.put, List.setIfInBounds_toArray, List.set_cons_zero, List.set_cons_succ]
                  refine wpAnyH_take (i := 21) (v := ?_) (by simp only [List.getElem?_toArray, List.getElem?_cons_succ, List.getElem?_cons_zero]; rfl) (by kernel_rfl) (by kernel_rfl) (by kernel_rfl) (by exact fun _ _ _ h => h) (Or.inl ⟨by rfl, ?_⟩) (by assumption) ?_
                  rotate_left
                  · intro w' hSw; (try dsimp only at hSw); obtain ⟨e0, e1, e2, e3, e4, e5, e6, e7, e8, _⟩ := hSw
                    go_simp; try with_reducible rfl
                  try simp only [Act.put, List.setIfInBounds_toArray, List.set_cons_zero, List.set_cons_succ]
                  refine wpAnyH_take (i := 22) (v := ?_) (by simp only [List.getElem?_toArray, List.getElem?_cons_succ, List.getElem?_cons_zero]; rfl) (by kernel_rfl) (by kernel_rfl) (by kernel_rfl) (by exact fun _ _ _ h => h) (Or.inl ⟨by rfl, ?_⟩) (by assumption) ?_
                  rotate_left
                  · intro w' hSw; (try dsimp only at hSw); obtain ⟨e0, e1, e2, e3, e4, e5, e6, e7, e8, _⟩ := hSw
                    go_simp; try with_reducible rfl
                  try simp only [Act.put, List.setIfInBounds_toArray, List.set_cons_zero, List.set_cons_succ]
                  refine wpAnyH_take (i := 23) (v := ?_) (by simp only [List.getElem?_toArray, List.getElem?_cons_succ, List.getElem?_cons_zero]; rfl) (by kernel_rfl) (by kernel_rfl) (by kernel_rfl) (by exact fun _ _ _ h => h) (Or.inl ⟨by rfl, ?_⟩) (by assumption) ?_
                  rotate_left
                  · intro w' hSw; (try dsimp only at hSw); obtain ⟨e0, e1, e2, e3, e4, e5, e6, e7, e8, _⟩ := hSw
                    go_simp; try with_reducible rfl
                  try simp only [Act.put, List.setIfInBounds_toArray, List.set_cons_zero, List.set_cons_succ]
                  refine wpAnyH_take (i := 24) (v := ?_) (by simp only [List.getElem?_toArray, List.getElem?_cons_succ, List.getElem?_cons_zero]; rfl) (by kernel_rfl) (by kernel_rfl) (by kernel_rfl) (by exact fun _ _ _ h => h) (Or.inl ⟨by rfl, ?_⟩) (by assumption) ?_
                  rotate_left
                  · intro w' hSw; (try dsimp only at hSw); obtain ⟨e0, e1, e2, e3, e4, e5, e6, e7, e8, _⟩ := hSw
                    go_simp; try with_reducible rfl
                  try simp only [Act.put, List.setIfInBounds_toArray, List.set_cons_zero, List.set_cons_succ]
                  refine wpAnyH_take (i := 25) (v := ?_) (by simp only [List.getElem?_toArray, List.getElem?_cons_succ, List.getElem?_cons_zero]; rfl) (by kernel_rfl) (by kernel_rfl) (by kernel_rfl) (by exact fun _ _ _ h => h) (Or.inl ⟨by rfl, ?_⟩) (by assumption) ?_
                  rotate_left
                  · intro w' hSw; (try dsimp only at hSw); obtain ⟨e0, e1, e2, e3, e4, e5, e6, e7, e8, _⟩ := hSw
                    go_simp; try with_reducible rfl
                  try simp only [Act.put, List.setIfInBounds_toArray, List.set_cons_zero, List.set_cons_succ]
                  refine wpAnyH_take (i := 26) (v := ?_) (by simp only [List.getElem?_toArray, List.getElem?_cons_succ, List.getElem?_cons_zero]; rfl) (by kernel_rfl) (by kernel_rfl) (by kernel_rfl) (by exact fun _ _ _ h => h) (Or.inl ⟨by rfl, ?_⟩) (by assumption) ?_
                  rotate_left
                  · intro w' hSw; (try dsimp only at hSw); obtain ⟨e0, e1, e2, e3, e4, e5, e6, e7, e8, _⟩ := hSw
                    go_simp; try with_reducible rfl
                  try simp only [Act.put, List.setIfInBounds_toArray, List.set_cons_zero, List.set_cons_succ]
                  refine wpAnyH_take (i := 27) (v := ?_) (by simp only [List.getElem?_toArray, List.getElem?_cons_succ, List.getElem?_cons_zero]; rfl) (by kernel_rfl) (by kernel_rfl) (by kernel_rfl) (by exact fun _ _ _ h => h) (Or.inl ⟨by rfl, ?_⟩) (by assumption) ?_
                  rotate_left
                  · intro w' hSw; (try dsimp only at hSw); obtain ⟨e0, e1, e2, e3, e4, e5, e6, e7, e8, _⟩ := hSw
                    go_simp; try with_reducible rfl
                  try simp only [Act.put, List.setIfInBounds_toArray, List.set_cons_zero, List.set_cons_succ]
                  refine wpAnyH_take (i := 28) (v := ?_) (by simp only [List.getElem?_toArray, List.getElem?_cons_succ, List.getElem?_cons_zero]; rfl) (by kernel_rfl) (by kernel_rfl) (by kernel_rfl) (by exact fun _ _ _ h => h) (Or.inl ⟨by rfl, ?_⟩) (by assumption) ?_
                  rotate_left
                  · intro w' hSw; (try dsimp only at hSw); obtain ⟨e0, e1, e2, e3, e4, e5, e6, e7, e8, _⟩ := hSw
                    go_simp; try with_reducible rfl
                  try simp only [Act.put, List.setIfInBounds_toArray, List.set_cons_zero, List.set_cons_succ]
                  refine wpAnyH_take (i := 29) (v := ?_) (by simp only [List.getElem?_toArray, List.getElem?_cons_succ, List.getElem?_cons_zero]; rfl) (by kernel_rfl) (by kernel_rfl) (by kernel_rfl) (by exact fun _ _ _ h => h) (Or.inl ⟨by rfl, ?_⟩) (by assumption) ?_
                  rotate_left
                  · intro w' hSw; (try dsimp only at hSw); obtain ⟨e0, e1, e2, e3, e4, e5, e6, e7, e8, _⟩ := hSw
                    go_simp; try with_reducible rfl
                  try simp only [Act.put, List.setIfInBounds_toArray, List.set_cons_zero, List.set_cons_succ]
                  refine wpAnyH_ready (rs := [30]) (by kernel_rfl) (by simp) ?_
                  refine AllReadyH.cons (by simp only [List.getElem?_toArray, List.getElem?_cons_succ, List.getElem?_cons_zero]; rfl) (fun K hK => ?_) AllReadyH.nil
                  go_simp
                  go_at_call 80
                  refine (HLa.out _ (HBb.out.1.trans (w5b.mono HBb.out.1.size))).mono ?_
                  rintro e w6 ⟨rfl, hb⟩
                  have w6b : Below w3.heap.size w3 w6 := w5b.trans (hb.mono w5b.size)
                  have hSw6 : w6.cell? ⟨w.heap.size, 1, none⟩ = some (.slice (some ⟨sb, so, none⟩) n.lines.length c') ∧ w6.cell? ⟨g, go + ka * 2, none⟩ = some (.int .i64 (la : Int)) ∧ w6.cell? ⟨g, go + kb * 2, none⟩ = some (.int .i64 (lb : Int)) ∧ w6.cell? ⟨sb, so + la * 3, none⟩ = some (.string A.name) ∧ w6.cell? ⟨sb, so + la * 3 + 1, none⟩ = some (.slice sa0 A.stops.length sa1) ∧ w6.cell? ⟨sb, so + la * 3 + 2, none⟩ = some (.slice ra0 A.runs.length ra1) ∧ w6.cell? ⟨sb, so + lb * 3, none⟩ = some (.string B.name) ∧ w6.cell? ⟨sb, so + lb * 3 + 1, none⟩ = some (.slice sb0 B.stops.length sb1) ∧ w6.cell? ⟨sb, so + lb * 3 + 2, none⟩ = some (.slice rb0 B.runs.length rb1) ∧ Below w3.heap.size w3 w6 := ⟨bkeep w6b p1, bkeep w6b ya0, bkeep w6b yb0, bkeep w6b xa0, bkeep w6b xa1, bkeep w6b xa2, bkeep w6b xb0, bkeep w6b xb1, bkeep w6b xb2, w6b⟩
                  clear hb
                  go_wp2_with fail
                  refine hK.out _ _ hSw6 (fun hH30 => ?_)
                  clear hK K
                  try simp only [Act.put, List.setIfInBounds_toArray, List.set_cons_zero, List.set_cons_succ]
                  refine wpAnyH_take (i := 31) (v := ?_) (by simp only [List.getElem?_toArray, List.getElem?_cons_succ, List.getElem?_cons_zero]; rfl) (by kernel_rfl) (by kernel_rfl) (by kernel_rfl) (by exact fun _ _ _ h => h) (Or.inl ⟨by rfl, ?_⟩) (by assumption) ?_
                  rotate_left
                  · intro w' hSw; (try dsimp only at hSw); obtain ⟨e0, e1, e2, e3, e4, e5, e6, e7, e8, _⟩ := hSw
                    go_simp; try with_reducible rfl
                  try simp only [Act.put, List.setIfInBounds_toArray, List.set_cons_zero, List.set_cons_succ]
                  refine wpAnyH_done (by kernel_rfl) ?_ _
                  have HBf : Hid (Below w.heap.size w w6) := HBb.out.1.trans ((w6b).mono HBb.out.1.size)
                  go_wp2_with fail
                  go_loop [20] (fun q => ∃ j : Nat, j ≤ D ∧ q = .int .i64 (wk + (j : Int))) (fun q => (wk + (D : Int) - RowKit.intOf q).toNat)
                  case atStart => exact ⟨0, Nat.zero_le _, by simp⟩
                  case round =>
                    obtain ⟨j, hj, rfl⟩ := hrel
                    have hi := HIff.out (j : Int) (by omega) (by omega)
                    have hw1 : IntKind.i64.wrap (rA + (wk + (j : Int))) = rA + (wk + (j : Int)) := IntWalk.i64_in _ (by omega)
                    have hw2 : IntKind.i64.wrap (wk + (j : Int) + 1) = wk + (j : Int) + 1 := IntWalk.i64_in _ (by omega)
                    have htm : (rA + (wk + (j : Int))).tmod p = (rA + (wk + (j : Int))) % p := Int.tmod_eq_emod_of_nonneg (by omega)
                    have hm0 := Int.emod_nonneg (rA + (wk + (j : Int))) hp0
                    have hm1 := Int.emod_lt_of_pos (rA + (wk + (j : Int))) (show 0 < p by omega)
                    generalize hmm : (rA + (wk + (j : Int))) % p = m at *
                    have hw3 : IntKind.i64.wrap m = m := IntWalk.i64_in _ (by omega)
                    clear hmm
                    by_cases hjd : j = D
                    · have hme : (m != rB) = false := by simp; omega
                      have hme2 : (m == rB) = true := by simp; omega
                      subst hjd
                      clear hi
                      go_wp2_with fail
                      go_ret2
                      exact ⟨rfl, HBf.out⟩
                    · have hme : (m != rB) = true := by simp; omega
                      have hme2 : (m == rB) = false := by simp; omega
                      clear hi
                      go_wp2_with fail
                      go_round
                      case rel => exact ⟨j + 1, by omega, by go_num⟩
                      case measure => simp [RowKit.intOf]; omega

theorem keepT9 {W w w' : World} {p0 p1 p2 p3 p4 p5 p6 p7 p8 : Addr} {x0 x1 x2 x3 x4 x5 x6 x7 x8 : Value} (hb : Below w.heap.size w w') (h : w.cell? p0 = some x0 ∧ w.cell? p1 = some x1 ∧ w.cell? p2 = some x2 ∧ w.cell? p3 = some x3 ∧ w.cell? p4 = some x4 ∧ w.cell? p5 = some x5 ∧ w.cell? p6 = some x6 ∧ w.cell? p7 = some x7 ∧ w.cell? p8 = some x8 ∧ Below W.heap.size W w) :
    w'.cell? p0 = some x0 ∧ w'.cell? p1 = some x1 ∧ w'.cell? p2 = some x2 ∧ w'.cell? p3 = some x3 ∧ w'.cell? p4 = some x4 ∧ w'.cell? p5 = some x5 ∧ w'.cell? p6 = some x6 ∧ w'.cell? p7 = some x7 ∧ w'.cell? p8 = some x8 ∧ Below W.heap.size W w' := by
  obtain ⟨h0, h1, h2, h3, h4, h5, h6, h7, h8, hl⟩ := h
  exact ⟨bkeep hb h0, bkeep hb h1, bkeep hb h2, bkeep hb h3, bkeep hb h4, bkeep hb h5, bkeep hb h6, bkeep hb h7, bkeep hb h8, hl.trans (hb.mono hl.size)⟩

set_option maxRecDepth 100000 in
set_option maxHeartbeats 4000000 in
theorem specTransfer_any (nv lv : Value) (n : NetD) (p : Int) (xs : List PatternD) (a b stop wk : Int) (w : World) (hr : NetAt w nv n) (hw : PatternsAt w lv xs) (hf : NetFits n) (hs : NetSmall n) (hxs : PatternsSmall xs) (hst : (Lit.int .i64 stop).wf = true) :
    Calls Try.prog 33 #[nv, .int .i64 p, lv, .int .i64 a, .int .i64 b, .int .i64 stop, .int .i64 wk] w fun e w' => e = .returned (.tuple #[.int .i64 (twF n p xs a b stop wk), .bool (twB n p xs a b stop wk)]) ∧ Below w.heap.size w w' := by
  have HG := Lib.hid (fun W (hW : Below w.heap.size w W) => l10Asked_any nv lv n p xs stop W (hr.below rfl hW) (hw.below rfl hW) hf hs)
  have HRs := Lib.hid (fun (h : PatsGood n p xs) k (hk : k < xs.length) s W (hW : Below w.heap.size w W) => l10Rest_any nv n p xs[k] s W (hr.below rfl hW) h.1 h.2.1 (h.2.2.2 k hk))
  have HPt := Lib.hid hw
  have HNt := Lib.hid hr
  obtain ⟨a0, c, a', c', rfl, -, -⟩ := net_open hr
  obtain ⟨lbx, d, rfl⟩ := PatternS_open hw
  have hxs2 : xs.length ≤ 1048576 := hxs
  have hlw : IntKind.i64.wrap ((xs.length : Int) - 1) = (xs.length : Int) - 1 := IntWalk.i64_in _ (by omega)
  clear hr hw hf hs hxs
  cases hask : askG n p xs stop with
  | false =>
    rw [hask] at HG
    have ht : twB n p xs a b stop wk = false := twB_no (fun h => by rw [askG_yes (mtB_iff h.1).1 h.2.1.1 h.2.1.2] at hask; exact Bool.noConfusion hask)
    rw [twF_no ht, ht]
    clear hask ht HRs HPt HNt
    go_enter Try.func33, Try.ntmps33
    go_wp2_with fail
    go_at_call 57
    refine (HG.out _ ((Below.refl _ _).alloc (Nat.le_refl _) _)).mono ?_
    rintro e w1 ⟨rfl, hb1⟩
    have HB1 : Hid (Below w.heap.size w w1 ∧ w.heap.size < w1.heap.size) := ⟨((Below.refl _ _).alloc (Nat.le_refl _) _).trans (hb1.mono (by simp)), by have := hb1.size; simp at this; omega⟩
    have p0 : w1.cell? ⟨w.heap.size, 0, none⟩ = some (.slice a0 n.stops.length c) := bkeep hb1 (by go_simp)
    have p1 : w1.cell? ⟨w.heap.size, 1, none⟩ = some (.slice a' n.lines.length c') := bkeep hb1 (by go_simp)
    clear hb1 HG
    go_wp2_with fail
    go_ret2
    exact ⟨rfl, HB1.out.1⟩
  | true =>
    rw [hask] at HG
    have hgd := askG_iff hask
    by_cases hia : 0 ≤ a ∧ a ≤ (xs.length : Int) - 1
    · have HIA : Hid (∀ W : World, Calls Try.prog 66 #[.int .i64 a, .int .i64 0, .int .i64 ((xs.length : Int) - 1)] W fun e w' => e = .returned (.bool true) ∧ W = w') := fun W => l1In_yes _ _ _ W hia
      by_cases hib : 0 ≤ b ∧ b ≤ (xs.length : Int) - 1
      · have HIB : Hid (∀ W : World, Calls Try.prog 66 #[.int .i64 b, .int .i64 0, .int .i64 ((xs.length : Int) - 1)] W fun e w' => e = .returned (.bool true) ∧ W = w') := fun W => l1In_yes _ _ _ W hib
        have hm : mtB n p xs a b = true := mtB_yes hgd.1 (by omega) (by omega)
        by_cases hab : a = b
        · have ht : twB n p xs a b stop wk = false := twB_no (fun h => h.2.2.1 hab)
          have he1 : (a == b) = true := by simp [hab]
          rw [twF_no ht, ht]
          clear hm ht HRs HPt HNt hab hask hgd hia hib
          go_enter Try.func33, Try.ntmps33
          go_wp2_with fail
          go_at_call 57
          refine (HG.out _ ((Below.refl _ _).alloc (Nat.le_refl _) _)).mono ?_
          rintro e w1 ⟨rfl, hb1⟩
          have HB1 : Hid (Below w.heap.size w w1 ∧ w.heap.size < w1.heap.size) := ⟨((Below.refl _ _).alloc (Nat.le_refl _) _).trans (hb1.mono (by simp)), by have := hb1.size; simp at this; omega⟩
          have p0 : w1.cell? ⟨w.heap.size, 0, none⟩ = some (.slice a0 n.stops.length c) := bkeep hb1 (by go_simp)
          have p1 : w1.cell? ⟨w.heap.size, 1, none⟩ = some (.slice a' n.lines.length c') := bkeep hb1 (by go_simp)
          clear hb1 HG
          go_wp2_with fail
          go_at_call 66
          refine (HIA.out _).mono ?_
          rintro e w2 ⟨rfl, rfl⟩
          go_wp2_with fail
          go_at_call 66
          refine (HIB.out _).mono ?_
          rintro e w2 ⟨rfl, rfl⟩
          go_wp2_with fail
          go_ret2
          exact ⟨rfl, HB1.out.1⟩
        · have he1 : (a == b) = false := by simp [hab]
          by_cases hiw : 0 ≤ wk ∧ wk ≤ 60
          · have HIW : Hid (∀ W : World, Calls Try.prog 66 #[.int .i64 wk, .int .i64 0, .int .i64 60] W fun e w' => e = .returned (.bool true) ∧ W = w') := fun W => l1In_yes _ _ _ W hiw
            obtain ⟨hgood, ⟨ha0, ha1⟩, ⟨hb0, hb1⟩⟩ := mtB_iff hm
            obtain ⟨ka, rfl⟩ := Int.eq_ofNat_of_zero_le ha0
            obtain ⟨kb, rfl⟩ := Int.eq_ofNat_of_zero_le hb0
            have hka : ka < xs.length := by omega
            have hkb : kb < xs.length := by omega
            have hXa := hgood.2.2.2 ka hka
            have hXb := hgood.2.2.2 kb hkb
            obtain ⟨la, hla, hlal⟩ := pat_line hXa
            obtain ⟨lb, hlb, hlbl⟩ := pat_line hXb
            have hga := good_line hgood.1 la hlal
            have hgb := good_line hgood.1 lb hlbl
            have hp := hgood.2.1
            have HTw : Hid (TwOk n p xs ka kb stop wk ↔ ((0 ≤ stop ∧ stop < (n.stops.length : Int)) ∧ (ka : Int) ≠ kb ∧ (0 ≤ wk ∧ wk ≤ 60) ∧ (1 ≤ fstIdx stop n.lines[la].stops ∧ 0 ≤ fstIdx stop n.lines[lb].stops ∧ fstIdx stop n.lines[lb].stops ≠ (n.lines[lb].stops.length : Int) - 1))) := by
              show _ ↔ _
              unfold TwOk; rw [hm, pt_at hka, pt_at hkb, lnI_at hla hlal, lnI_at hlb hlbl]; simp only [true_and]
            have HTf : Hid (twB n p xs ka kb stop wk = true → twF n p xs ka kb stop wk = wk + twD (restI n p xs[ka] stop) wk (restI n p xs[kb] stop) p) := fun h => by rw [twF_yes h, pt_at hka, pt_at hkb]
            have HSt : Hid (0 ≤ fstIdx stop n.lines[la].stops → 0 ≤ stop ∧ stop < (n.stops.length : Int)) := fun h => by
              by_cases hm : stop ∈ n.lines[la].stops
              · exact hga.2.2.1 stop hm
              · rw [fstIdx_none hm] at h; omega
            have hNa : restI n p xs[ka] stop < 0 ↔ fstIdx stop n.lines[la].stops < 0 := by rw [rest_neg hp.1, lnI_at hla hlal]
            have hNb : restI n p xs[kb] stop < 0 ↔ fstIdx stop n.lines[lb].stops < 0 := by rw [rest_neg hp.1, lnI_at hlb hlbl]
            have hIa := rest_in (n := n) hp.1 xs[ka] stop
            have hIb := rest_in (n := n) hp.1 xs[kb] stop
            have HCa := Lib.hid (fun W hW => HRs.out hgood ka hka stop W hW)
            have HCb := Lib.hid (fun W hW => HRs.out hgood kb hkb stop W hW)
            obtain ⟨sb, so, sa0, sa1, ra0, ra1, rfl, hsb, xa0, xa1, xa2, hra, hrra⟩ := net_line HNt.out la hlal
            obtain ⟨_, _, sb0, sb1, rb0, rb1, he, -, xb0, xb1, xb2, hrb, hrrb⟩ := net_line HNt.out lb hlbl
            simp at he
            obtain ⟨rfl, rfl⟩ := he
            obtain ⟨g, go, rfl, hgl, ya0, ya1⟩ := pat_at HPt.out ka hka
            obtain ⟨_, _, he, -, yb0, yb1⟩ := pat_at HPt.out kb hkb
            simp at he
            obtain ⟨rfl, rfl⟩ := he
            have hLa : LineV w (.agg #[.string n.lines[la].name, .slice sa0 n.lines[la].stops.length sa1, .slice ra0 n.lines[la].runs.length ra1]) n.lines[la] := ⟨_, _, rfl, hra, hrra⟩
            have hLb : LineV w (.agg #[.string n.lines[lb].name, .slice sb0 n.lines[lb].stops.length sb1, .slice rb0 n.lines[lb].runs.length rb1]) n.lines[lb] := ⟨_, _, rfl, hrb, hrrb⟩
            have hka1 : (ka : Int) < (xs.length : Int) := by omega
            have hkb1 : (kb : Int) < (xs.length : Int) := by omega
            have hla1 : (la : Int) < (n.lines.length : Int) := by omega
            have hlb1 : (lb : Int) < (n.lines.length : Int) := by omega
            have hsal := hga.2.1
            have hsbl := hgb.2.1
            have HPa := Lib.hid (fun W (hW : Below w.heap.size w W) => l2Place_any _ n.lines[la] stop W (hLa.below rfl hW))
            have HPb := Lib.hid (fun W (hW : Below w.heap.size w W) => l2Place_any _ n.lines[lb] stop W (hLb.below rfl hW))
            clear hask hgd hia hib
            clear HRs HPt HNt hm hra hrra hrb hrrb hXa hXb hgood ha0 ha1 hb0 hb1 hga hgb hLa hLb
            generalize restI n p xs[ka] stop = rA at *
            generalize restI n p xs[kb] stop = rB at *
            generalize n.lines[la] = A at *
            generalize n.lines[lb] = B at *
            generalize xs[ka] = X at *
            generalize xs[kb] = Y at *
            have hFa := fstIdx_lt stop A.stops
            have hFb := fstIdx_lt stop B.stops
            obtain ⟨xl, xo⟩ := X
            obtain ⟨yl, yo⟩ := Y
            simp only at hla hlb
            subst hla
            subst hlb
            unfold patV at HCa HCb
            simp only at *
            obtain ⟨RES, BB, hRES⟩ : ∃ RES BB, twF n p xs ka kb stop wk = RES ∧ twB n p xs ka kb stop wk = BB := ⟨_, _, rfl, rfl⟩
            have HT0 : Hid (BB = false → RES = 0) := fun h => by rw [← hRES.1]; rw [← hRES.2] at h; exact twF_no h
            rw [hRES.1, hRES.2] at HTf
            rw [hRES.1, hRES.2]
            have HRES := Lib.hid hRES.2
            clear hRES
            have HTB : Hid (BB = true ↔ TwOk n p xs ka kb stop wk) := by show _ ↔ _; rw [← HRES.out]; exact twB_iff
            clear HRES
            obtain ⟨FA, hFA⟩ : ∃ FA, fstIdx stop A.stops = FA := ⟨_, rfl⟩
            obtain ⟨FB, hFB⟩ : ∃ FB, fstIdx stop B.stops = FB := ⟨_, rfl⟩
            rw [hFA] at HPa HTw HSt hNa hFa
            rw [hFB] at HPb HTw hNb hFb
            clear hFA hFB
            go_enter Try.func33, Try.ntmps33
            go_wp2_with fail
            go_at_call 57
            refine (HG.out _ ((Below.refl _ _).alloc (Nat.le_refl _) _)).mono ?_
            rintro e w1 ⟨rfl, hb1⟩
            have HB1 : Hid (Below w.heap.size w w1 ∧ w.heap.size < w1.heap.size) := ⟨((Below.refl _ _).alloc (Nat.le_refl _) _).trans (hb1.mono (by simp)), by have := hb1.size; simp at this; omega⟩
            have p0 : w1.cell? ⟨w.heap.size, 0, none⟩ = some (.slice a0 n.stops.length c) := bkeep hb1 (by go_simp)
            have p1 : w1.cell? ⟨w.heap.size, 1, none⟩ = some (.slice (some ⟨sb, so, none⟩) n.lines.length c') := bkeep hb1 (by go_simp)
            clear hb1 HG
            go_wp2_with fail
            go_at_call 66
            refine (HIA.out _).mono ?_
            rintro e w2 ⟨rfl, rfl⟩
            go_wp2_with fail
            go_at_call 66
            refine (HIB.out _).mono ?_
            rintro e w2 ⟨rfl, rfl⟩
            go_wp2_with fail
            go_at_call 66
            refine (HIW.out _).mono ?_
            rintro e w2 ⟨rfl, rfl⟩
            go_upto_region 3 with fail
            have ya0 := bkeep HB1.out.1 ya0
            have ya1 := bkeep HB1.out.1 ya1
            have yb0 := bkeep HB1.out.1 yb0
            have yb1 := bkeep HB1.out.1 yb1
            have xa0 := bkeep HB1.out.1 xa0
            have xa1 := bkeep HB1.out.1 xa1
            have xa2 := bkeep HB1.out.1 xa2
            have xb0 := bkeep HB1.out.1 xb0
            have xb1 := bkeep HB1.out.1 xb1
            have xb2 := bkeep HB1.out.1 xb2
            go_cut [16, 17] (fun s16 s17 wx => ∃ bx cx : Nat, s16 = .pointer (some ⟨bx, 0, none⟩) ∧ s17 = .pointer (some ⟨cx, 0, none⟩) ∧ Hid (wx.cell? ⟨bx, 0, none⟩ = some (.string A.name) ∧ wx.cell? ⟨bx, 1, none⟩ = some (.slice sa0 A.stops.length sa1) ∧ wx.cell? ⟨bx, 2, none⟩ = some (.slice ra0 A.runs.length ra1)) ∧ Hid (wx.cell? ⟨cx, 0, none⟩ = some (.string B.name) ∧ wx.cell? ⟨cx, 1, none⟩ = some (.slice sb0 B.stops.length sb1) ∧ wx.cell? ⟨cx, 2, none⟩ = some (.slice rb0 B.runs.length rb1)) ∧ Hid (Below w1.heap.size w1 wx))
            case first =>
              refine wp_region_until 21 (S := (fun w' => w'.cell? ⟨w.heap.size, 1, none⟩ = some (.slice (some ⟨sb, so, none⟩) n.lines.length c') ∧ w'.cell? ⟨g, go + ka * 2, none⟩ = some (.int .i64 (la : Int)) ∧ w'.cell? ⟨g, go + kb * 2, none⟩ = some (.int .i64 (lb : Int)) ∧ w'.cell? ⟨sb, so + la * 3, none⟩ = some (.string A.name) ∧ w'.cell? ⟨sb, so + la * 3 + 1, none⟩ = some (.slice sa0 A.stops.length sa1) ∧ w'.cell? ⟨sb, so + la * 3 + 2, none⟩ = some (.slice ra0 A.runs.length ra1) ∧ w'.cell? ⟨sb, so + lb * 3, none⟩ = some (.string B.name) ∧ w'.cell? ⟨sb, so + lb * 3 + 1, none⟩ = some (.slice sb0 B.stops.length sb1) ∧ w'.cell? ⟨sb, so + lb * 3 + 2, none⟩ = some (.slice rb0 B.runs.length rb1) ∧ Below w1.heap.size w1 w')) (by kernel_rfl) ?_ (fun hHeld => ?_)
              · exact ⟨p1, ya0, yb0, xa0, xa1, xa2, xb0, xb1, xb2, (Below.refl _ _).drew⟩
              refine wpAnyU_take (i := 0) (v := ?_) (by simp only [List.getElem?_toArray, List.getElem?_cons_zero]; rfl) (by kernel_rfl) (by kernel_rfl) (by kernel_rfl) (by kernel_rfl) (by kernel_rfl) (by exact fun _ _ _ h => h) (Or.inl ⟨by rfl, ?_⟩) (by assumption) ?_
              rotate_left
              · intro w' hSw; (try dsimp only at hSw); obtain ⟨e0, e1, e2, e3, e4, e5, e6, e7, e8, _⟩ := hSw
                go_simp; try with_reducible rfl
              try simp only [Act.put, List.setIfInBounds_toArray, List.set_cons_zero, List.set_cons_succ]
              refine wpAnyU_take (i := 1) (v := ?_) (by simp only [List.getElem?_toArray, List.getElem?_cons_succ, List.getElem?_cons_zero]; rfl) (by kernel_rfl) (by kernel_rfl) (by kernel_rfl) (by kernel_rfl) (by kernel_rfl) (by exact fun _ _ _ h => h) (Or.inl ⟨by rfl, ?_⟩) (by assumption) ?_
              rotate_left
              · intro w' hSw; (try dsimp only at hSw); obtain ⟨e0, e1, e2, e3, e4, e5, e6, e7, e8, _⟩ := hSw
                go_simp; try with_reducible rfl
              try simp only [Act.put, List.setIfInBounds_toArray, List.set_cons_zero, List.set_cons_succ]
              refine wpAnyU_take (i := 2) (v := ?_) (by simp only [List.getElem?_toArray, List.getElem?_cons_succ, List.getElem?_cons_zero]; rfl) (by kernel_rfl) (by kernel_rfl) (by kernel_rfl) (by kernel_rfl) (by kernel_rfl) (by exact fun _ _ _ h => h) (Or.inl ⟨by rfl, ?_⟩) (by assumption) ?_
              rotate_left
              · intro w' hSw; (try dsimp only at hSw); obtain ⟨e0, e1, e2, e3, e4, e5, e6, e7, e8, _⟩ := hSw
                go_simp; try with_reducible rfl
              try simp only [Act.put, List.setIfInBounds_toArray, List.set_cons_zero, List.set_cons_succ]
              refine wpAnyU_take (i := 3) (v := ?_) (by simp only [List.getElem?_toArray, List.getElem?_cons_succ, List.getElem?_cons_zero]; rfl) (by kernel_rfl) (by kernel_rfl) (by kernel_rfl) (by kernel_rfl) (by kernel_rfl) (by exact fun _ _ _ h => h) (Or.inl ⟨by rfl, ?_⟩) (by assumption) ?_
              rotate_left
              · intro w' hSw; (try dsimp only at hSw); obtain ⟨e0, e1, e2, e3, e4, e5, e6, e7, e8, _⟩ := hSw
                go_simp; try with_reducible rfl
              try simp only [Act.put, List.setIfInBounds_toArray, List.set_cons_zero, List.set_cons_succ]
              refine wpAnyU_take (i := 4) (v := ?_) (by simp only [List.getElem?_toArray, List.getElem?_cons_succ, List.getElem?_cons_zero]; rfl) (by kernel_rfl) (by kernel_rfl) (by kernel_rfl) (by kernel_rfl) (by kernel_rfl) (by exact fun _ _ _ h => h) (Or.inl ⟨by rfl, ?_⟩) (by assumption) ?_
              rotate_left
              · intro w' hSw; (try dsimp only at hSw); obtain ⟨e0, e1, e2, e3, e4, e5, e6, e7, e8, _⟩ := hSw
                go_simp; try with_reducible rfl
              try simp only [Act.put, List.setIfInBounds_toArray, List.set_cons_zero, List.set_cons_succ]
              refine wpAnyU_take (i := 5) (v := ?_) (by simp only [List.getElem?_toArray, List.getElem?_cons_succ, List.getElem?_cons_zero]; rfl) (by kernel_rfl) (by kernel_rfl) (by kernel_rfl) (by kernel_rfl) (by kernel_rfl) (by exact fun _ _ _ h => h) (Or.inl ⟨by rfl, ?_⟩) (by assumption) ?_
              rotate_left
              · intro w' hSw; (try dsimp only at hSw); obtain ⟨e0, e1, e2, e3, e4, e5, e6, e7, e8, _⟩ := hSw
                go_simp; try with_reducible rfl
              try simp only [Act.put, List.setIfInBounds_toArray, List.set_cons_zero, List.set_cons_succ]
              refine wpAnyU_take (i := 6) (v := ?_) (by simp only [List.getElem?_toArray, List.getElem?_cons_succ, List.getElem?_cons_zero]; rfl) (by kernel_rfl) (by kernel_rfl) (by kernel_rfl) (by kernel_rfl) (by kernel_rfl) (by exact fun _ _ _ h => h) (Or.inl ⟨by rfl, ?_⟩) (by assumption) ?_
              rotate_left
              · intro w' hSw; (try dsimp only at hSw); obtain ⟨e0, e1, e2, e3, e4, e5, e6, e7, e8, _⟩ := hSw
                go_simp; try with_reducible rfl
              try simp only [Act.put, List.setIfInBounds_toArray, List.set_cons_zero, List.set_cons_succ]
              refine wpAnyU_take (i := 7) (v := ?_) (by simp only [List.getElem?_toArray, List.getElem?_cons_succ, List.getElem?_cons_zero]; rfl) (by kernel_rfl) (by kernel_rfl) (by kernel_rfl) (by kernel_rfl) (by kernel_rfl) (by exact fun _ _ _ h => h) (Or.inl ⟨by rfl, ?_⟩) (by assumption) ?_
              rotate_left
              · intro w' hSw; (try dsimp only at hSw); obtain ⟨e0, e1, e2, e3, e4, e5, e6, e7, e8, _⟩ := hSw
                go_simp; try with_reducible rfl
              try simp only [Act.put, List.setIfInBounds_toArray, List.set_cons_zero, List.set_cons_succ]
              refine wpAnyU_take (i := 8) (v := ?_) (by simp only [List.getElem?_toArray, List.getElem?_cons_succ, List.getElem?_cons_zero]; rfl) (by kernel_rfl) (by kernel_rfl) (by kernel_rfl) (by kernel_rfl) (by kernel_rfl) (by exact fun _ _ _ h => h) (Or.inl ⟨by rfl, ?_⟩) (by assumption) ?_
              rotate_left
              · intro w' hSw; (try dsimp only at hSw); obtain ⟨e0, e1, e2, e3, e4, e5, e6, e7, e8, _⟩ := hSw
                go_simp; try with_reducible rfl
              try simp only [Act.put, List.setIfInBounds_toArray, List.set_cons_zero, List.set_cons_succ]
              refine wpAnyU_take (i := 9) (v := ?_) (by simp only [List.getElem?_toArray, List.getElem?_cons_succ, List.getElem?_cons_zero]; rfl) (by kernel_rfl) (by kernel_rfl) (by kernel_rfl) (by kernel_rfl) (by kernel_rfl) (by exact fun _ _ _ h => h) (Or.inl ⟨by rfl, ?_⟩) (by assumption) ?_
              rotate_left
              · intro w' hSw; (try dsimp only at hSw); obtain ⟨e0, e1, e2, e3, e4, e5, e6, e7, e8, _⟩ := hSw
                go_simp; try with_reducible rfl
              try simp only [Act.put, List.setIfInBounds_toArray, List.set_cons_zero, List.set_cons_succ]
              refine wpAnyU_take (i := 10) (v := ?_) (by simp only [List.getElem?_toArray, List.getElem?_cons_succ, List.getElem?_cons_zero]; rfl) (by kernel_rfl) (by kernel_rfl) (by kernel_rfl) (by kernel_rfl) (by kernel_rfl) (by exact fun _ _ _ h => h) (Or.inl ⟨by rfl, ?_⟩) (by assumption) ?_
              rotate_left
              · intro w' hSw; (try dsimp only at hSw); obtain ⟨e0, e1, e2, e3, e4, e5, e6, e7, e8, _⟩ := hSw
                go_simp; try with_reducible rfl
              try simp only [Act.put, List.setIfInBounds_toArray, List.set_cons_zero, List.set_cons_succ]
              refine wpAnyU_take (i := 11) (v := ?_) (by simp only [List.getElem?_toArray, List.getElem?_cons_succ, List.getElem?_cons_zero]; rfl) (by kernel_rfl) (by kernel_rfl) (by kernel_rfl) (by kernel_rfl) (by kernel_rfl) (by exact fun _ _ _ h => h) (Or.inl ⟨by rfl, ?_⟩) (by assumption) ?_
              rotate_left
              · intro w' hSw; (try dsimp only at hSw); obtain ⟨e0, e1, e2, e3, e4, e5, e6, e7, e8, _⟩ := hSw
                go_simp; try with_reducible rfl
              try simp only [Act.put, List.setIfInBounds_toArray, List.set_cons_zero, List.set_cons_succ]
              refine wpAnyU_take (i := 12) (v := ?_) (by simp only [List.getElem?_toArray, List.getElem?_cons_succ, List.getElem?_cons_zero]; rfl) (by kernel_rfl) (by kernel_rfl) (by kernel_rfl) (by kernel_rfl) (by kernel_rfl) (by exact fun _ _ _ h => h) (Or.inl ⟨by rfl, ?_⟩) (by assumption) ?_
              rotate_left
              · intro w' hSw; (try dsimp only at hSw); obtain ⟨e0, e1, e2, e3, e4, e5, e6, e7, e8, _⟩ := hSw
                go_simp; try with_reducible rfl
              try simp only [Act.put, List.setIfInBounds_toArray, List.set_cons_zero, List.set_cons_succ]
              refine wpAnyU_take (i := 13) (v := ?_) (by simp only [List.getElem?_toArray, List.getElem?_cons_succ, List.getElem?_cons_zero]; rfl) (by kernel_rfl) (by kernel_rfl) (by kernel_rfl) (by kernel_rfl) (by kernel_rfl) (by exact fun _ _ _ h => h) (Or.inl ⟨by rfl, ?_⟩) (by assumption) ?_
              rotate_left
              · intro w' hSw; (try dsimp only at hSw); obtain ⟨e0, e1, e2, e3, e4, e5, e6, e7, e8, _⟩ := hSw
                go_simp; try with_reducible rfl
              try simp only [Act.put, List.setIfInBounds_toArray, List.set_cons_zero, List.set_cons_succ]
              refine wpAnyU_take (i := 14) (v := ?_) (by simp only [List.getElem?_toArray, List.getElem?_cons_succ, List.getElem?_cons_zero]; rfl) (by kernel_rfl) (by kernel_rfl) (by kernel_rfl) (by kernel_rfl) (by kernel_rfl) (by exact fun _ _ _ h => h) (Or.inl ⟨by rfl, ?_⟩) (by assumption) ?_
              rotate_left
              · intro w' hSw; (try dsimp only at hSw); obtain ⟨e0, e1, e2, e3, e4, e5, e6, e7, e8, _⟩ := hSw
                go_simp; try with_reducible rfl
              try simp only [Act.put, List.setIfInBounds_toArray, List.set_cons_zero, List.set_cons_succ]
              refine wpAnyU_take (i := 15) (v := ?_) (by simp only [List.getElem?_toArray, List.getElem?_cons_succ, List.getElem?_cons_zero]; rfl) (by kernel_rfl) (by kernel_rfl) (by kernel_rfl) (by kernel_rfl) (by kernel_rfl) (by exact fun _ _ _ h => h) (Or.inl ⟨by rfl, ?_⟩) (by assumption) ?_
              rotate_left
              · intro w' hSw; (try dsimp only at hSw); obtain ⟨e0, e1, e2, e3, e4, e5, e6, e7, e8, _⟩ := hSw
                go_simp; try with_reducible rfl
              try simp only [Act.put, List.setIfInBounds_toArray, List.set_cons_zero, List.set_cons_succ]
              refine wpAnyU_take (i := 16) (v := ?_) (by simp only [List.getElem?_toArray, List.getElem?_cons_succ, List.getElem?_cons_zero]; rfl) (by kernel_rfl) (by kernel_rfl) (by kernel_rfl) (by kernel_rfl) (by kernel_rfl) (by exact fun _ _ _ h => h) (Or.inl ⟨by rfl, ?_⟩) (by assumption) ?_
              rotate_left
              · intro w' hSw; (try dsimp only at hSw); obtain ⟨e0, e1, e2, e3, e4, e5, e6, e7, e8, _⟩ := hSw
                go_simp; try with_reducible rfl
              try simp only [Act.put, List.setIfInBounds_toArray, List.set_cons_zero, List.set_cons_succ]
              refine wpAnyU_take (i := 17) (v := ?_) (by simp only [List.getElem?_toArray, List.getElem?_cons_succ, List.getElem?_cons_zero]; rfl) (by kernel_rfl) (by kernel_rfl) (by kernel_rfl) (by kernel_rfl) (by kernel_rfl) (by exact fun _ _ _ h => h) (Or.inl ⟨by rfl, ?_⟩) (by assumption) ?_
              rotate_left
              · intro w' hSw; (try dsimp only at hSw); obtain ⟨e0, e1, e2, e3, e4, e5, e6, e7, e8, _⟩ := hSw
                go_simp; try with_reducible rfl
              try simp only [Act.put, List.setIfInBounds_toArray, List.set_cons_zero, List.set_cons_succ]
              refine wpAnyU_ready (rs := [18, 19]) (by kernel_rfl) (by simp) ?_
              refine AllReadyU.cons (by simp only [List.getElem?_toArray, List.getElem?_cons_succ, List.getElem?_cons_zero]; rfl) (fun K hK => ?_) (AllReadyU.cons (by simp only [List.getElem?_toArray, List.getElem?_cons_succ, List.getElem?_cons_zero]; rfl) (fun K hK => ?_) AllReadyU.nil)
              · go_simp
                refine hK.out _ _ (keepT9 ((Below.refl _ _).alloc (Nat.le_refl _) _) hHeld) (fun hH18 => ?_)
                clear hK K
                try simp only [Act.put, List.setIfInBounds_toArray, List.set_cons_zero, List.set_cons_succ]
                refine wpAnyU_ready (rs := [19]) (by kernel_rfl) (by simp) ?_
                refine AllReadyU.cons (by simp only [List.getElem?_toArray, List.getElem?_cons_succ, List.getElem?_cons_zero]; rfl) (fun K hK => ?_) AllReadyU.nil
                go_simp
                refine hK.out _ _ (keepT9 ((Below.refl _ _).alloc (Nat.le_refl _) _) hH18) (fun hH19 => ?_)
                clear hK K
                try simp only [Act.put, List.setIfInBounds_toArray, List.set_cons_zero, List.set_cons_succ]
                refine wpAnyU_ready (rs := [20]) (by kernel_rfl) (by simp) ?_
                refine AllReadyU.cons (by simp only [List.getElem?_toArray, List.getElem?_cons_succ, List.getElem?_cons_zero]; rfl) (fun K hK => ?_) AllReadyU.nil
                go_simp
                refine hK.out _ _ (keepT9 (w := w1) ((((Below.refl _ _).alloc (Nat.le_refl _) _).alloc (by simp) _).drew) ⟨p1, ya0, yb0, xa0, xa1, xa2, xb0, xb1, xb2, Below.refl _ _⟩) (fun hH20 => ?_)
                clear hK K
                try simp only [Act.put, List.setIfInBounds_toArray, List.set_cons_zero, List.set_cons_succ]
                refine wpAnyU_ready (rs := [21]) (by kernel_rfl) (by simp) ?_
                refine AllReadyU.last (by simp only [List.getElem?_toArray, List.getElem?_cons_succ, List.getElem?_cons_zero]; rfl) (by kernel_rfl) (fun K hK => ?_)
                go_simp
                refine hK.out _ _ ?_
                clear hK K
                try simp only [Act.put, List.setIfInBounds_toArray, List.set_cons_zero, List.set_cons_succ]
                refine wpAnyU_done (by kernel_rfl) ?_ _
                clear hHeld
                go_wp2_with fail
                go_meet
                exact ⟨_, _, rfl, rfl, ⟨by go_simp, by go_simp, by go_simp⟩, ⟨by go_simp, by go_simp, by go_simp⟩, (((Below.refl _ _).alloc (Nat.le_refl _) _).alloc (by simp) _).drew⟩
              · go_simp
                refine hK.out _ _ (keepT9 ((Below.refl _ _).alloc (Nat.le_refl _) _) hHeld) (fun hH19 => ?_)
                clear hK K
                try simp only [Act.put, List.setIfInBounds_toArray, List.set_cons_zero, List.set_cons_succ]
                refine wpAnyU_ready (rs := [18]) (by kernel_rfl) (by simp) ?_
                refine AllReadyU.cons (by simp only [List.getElem?_toArray, List.getElem?_cons_succ, List.getElem?_cons_zero]; rfl) (fun K hK => ?_) AllReadyU.nil
                go_simp
                refine hK.out _ _ (keepT9 ((Below.refl _ _).alloc (Nat.le_refl _) _) hH19) (fun hH18 => ?_)
                clear hK K
                try simp only [Act.put, List.setIfInBounds_toArray, List.set_cons_zero, List.set_cons_succ]
                refine wpAnyU_ready (rs := [20]) (by kernel_rfl) (by simp) ?_
                refine AllReadyU.cons (by simp only [List.getElem?_toArray, List.getElem?_cons_succ, List.getElem?_cons_zero]; rfl) (fun K hK => ?_) AllReadyU.nil
                go_simp
                refine hK.out _ _ (keepT9 (w := w1) ((((Below.refl _ _).alloc (Nat.le_refl _) _).alloc (by simp) _).drew) ⟨p1, ya0, yb0, xa0, xa1, xa2, xb0, xb1, xb2, Below.refl _ _⟩) (fun hH20 => ?_)
                clear hK K
                try simp only [Act.put, List.setIfInBounds_toArray, List.set_cons_zero, List.set_cons_succ]
                refine wpAnyU_ready (rs := [21]) (by kernel_rfl) (by simp) ?_
                refine AllReadyU.last (by simp only [List.getElem?_toArray, List.getElem?_cons_succ, List.getElem?_cons_zero]; rfl) (by kernel_rfl) (fun K hK => ?_)
                go_simp
                refine hK.out _ _ ?_
                clear hK K
                try simp only [Act.put, List.setIfInBounds_toArray, List.set_cons_zero, List.set_cons_succ]
                refine wpAnyU_done (by kernel_rfl) ?_ _
                clear hHeld
                go_wp2_with fail
                go_meet
                exact ⟨_, _, rfl, rfl, ⟨by go_simp, by go_simp, by go_simp⟩, ⟨by go_simp, by go_simp, by go_simp⟩, (((Below.refl _ _).alloc (Nat.le_refl _) _).alloc (by simp) _).drew⟩
            case rest =>
            obtain ⟨bx, cx, rfl, rfl, HX, HY, HBc⟩ := hcut
            have p0 := bkeep HBc.out p0
            have p1 := bkeep HBc.out p1
            have ya0 := bkeep HBc.out ya0
            have ya1 := bkeep HBc.out ya1
            have yb0 := bkeep HBc.out yb0
            have yb1 := bkeep HBc.out yb1
            have HB3 : Hid (Below w.heap.size w wc ∧ w.heap.size < wc.heap.size) := ⟨HB1.out.1.trans (HBc.out.mono HB1.out.1.size), by have := HBc.out.size; have := HB1.out.2; omega⟩
            obtain ⟨u0, u1, u2⟩ := HX.out
            obtain ⟨v0, v1, v2⟩ := HY.out
            clear HX HY HBc HB1 xa0 xa1 xa2 xb0 xb1 xb2
            obtain ⟨wd, hwd⟩ : ∃ wd : World, wd = wc := ⟨_, rfl⟩
            subst hwd
            go_upto_region 4 with fail
            go_cut [18, 19] (fun s18 s19 wx => s18 = .int .i64 FA ∧ s19 = .int .i64 FB ∧ Hid (wx.cell? ⟨cx, 1, none⟩ = some (.slice sb0 B.stops.length sb1)) ∧ Hid (Below wd.heap.size wd wx))
            case first =>
              go_region_held3 (fun w' => w'.cell? ⟨bx, 0, none⟩ = some (.string A.name) ∧ w'.cell? ⟨bx, 1, none⟩ = some (.slice sa0 A.stops.length sa1) ∧ w'.cell? ⟨bx, 2, none⟩ = some (.slice ra0 A.runs.length ra1) ∧ w'.cell? ⟨cx, 0, none⟩ = some (.string B.name) ∧ w'.cell? ⟨cx, 1, none⟩ = some (.slice sb0 B.stops.length sb1) ∧ w'.cell? ⟨cx, 2, none⟩ = some (.slice rb0 B.runs.length rb1) ∧ Below wd.heap.size wd w')
                (first | (exact ⟨u0, u1, u2, v0, v1, v2, (Below.refl _ _).drew⟩) | (exact keepT6 hb (by assumption)))
                (first | (go_at_call_of 81 A.name; refine (HPa.out _ (HB3.out.1.trans ((belT6 (by assumption)).mono HB3.out.1.size))).mono ?_; rintro e w' ⟨rfl, hb⟩) | (go_at_call_of 81 B.name; refine (HPb.out _ (HB3.out.1.trans ((belT6 (by assumption)).mono HB3.out.1.size))).mono ?_; rintro e w' ⟨rfl, hb⟩))
              all_goals
                obtain ⟨-, -, -, -, r1, -, qb⟩ := (by assumption : _ ∧ _)
                go_wp2_with fail
                go_meet
                exact ⟨rfl, rfl, r1, qb⟩
            case rest =>
            obtain ⟨rfl, rfl, HY, HBc⟩ := hcut
            have p0 := bkeep HBc.out p0
            have p1 := bkeep HBc.out p1
            have ya0 := bkeep HBc.out ya0
            have ya1 := bkeep HBc.out ya1
            have yb0 := bkeep HBc.out yb0
            have yb1 := bkeep HBc.out yb1
            have HB4 : Hid (Below w.heap.size w wc ∧ w.heap.size < wc.heap.size) := ⟨HB3.out.1.trans (HBc.out.mono HB3.out.1.size), by have := HBc.out.size; have := HB3.out.2; omega⟩
            have v1 := HY.out
            clear HY HBc HB3 u0 u1 u2 v0 v2 HPa HPb
            obtain ⟨w4, hwd⟩ : ∃ w4 : World, w4 = wc := ⟨_, rfl⟩
            subst hwd
            have hlenw : IntKind.i64.wrap ((B.stops.length : Int) - 1) = (B.stops.length : Int) - 1 := IntWalk.i64_in _ (by omega)
            by_cases h1 : FA < 1
            · have hbb : BB = false := by
                cases hb : BB with
                | false => rfl
                | true => have := (HTw.out.1 (HTB.out.1 hb)).2.2.2; omega
              have hr := Lib.hid (HT0.out hbb)
              have hbb := Lib.hid hbb
              have hd : decide (FA < 1) = true := decide_eq_true h1
              clear HT0 HTB HTf HTw HSt hNa hNb
              go_wp2_with fail
              go_ret2
              exact ⟨by (try rw [hr.out]); (try rw [hbb.out]); rfl, HB4.out.1⟩
            · have hd : decide (FA < 1) = false := decide_eq_false h1
              by_cases h2 : FB < 0
              · have hbb : BB = false := by
                  cases hb : BB with
                  | false => rfl
                  | true => have := (HTw.out.1 (HTB.out.1 hb)).2.2.2; omega
                have hr := Lib.hid (HT0.out hbb)
                have hbb := Lib.hid hbb
                have hd2 : decide (FB < 0) = true := decide_eq_true h2
                clear HT0 HTB HTf HTw HSt hNa hNb
                go_wp2_with fail
                go_ret2
                exact ⟨by (try rw [hr.out]); (try rw [hbb.out]); rfl, HB4.out.1⟩
              · have hd2 : decide (FB < 0) = false := decide_eq_false h2
                by_cases h3 : FB = (B.stops.length : Int) - 1
                · have hbb : BB = false := by
                    cases hb : BB with
                    | false => rfl
                    | true => have := (HTw.out.1 (HTB.out.1 hb)).2.2.2; omega
                  have hr := Lib.hid (HT0.out hbb)
                  have hbb := Lib.hid hbb
                  have hd3 : (FB == (B.stops.length : Int) - 1) = true := by simp [h3]
                  clear HT0 HTB HTf HTw HSt hNa hNb
                  go_wp2_with fail
                  go_ret2
                  exact ⟨by (try rw [hr.out]); (try rw [hbb.out]); rfl, HB4.out.1⟩
                · have hd3 : (FB == (B.stops.length : Int) - 1) = false := by simp [h3]
                  have hbb : BB = true := HTB.out.2 (HTw.out.2 ⟨HSt.out (by omega), hab, hiw, by omega, by omega, h3⟩)
                  have hr := HTf.out hbb
                  have hra0 : 0 ≤ rA := by omega
                  have hrb0 : 0 ≤ rB := by omega
                  have hp0 : ¬ p = 0 := by omega
                  have hp0' : (p == 0) = false := by simp; omega
                  have hw1 : IntKind.i64.wrap (rA + wk) = rA + wk := IntWalk.i64_in _ (by omega)
                  have htm : (rA + wk).tmod p = (rA + wk) % p := Int.tmod_eq_emod_of_nonneg (by omega)
                  have hm0 := Int.emod_nonneg (rA + wk) hp0
                  have hm1 := Int.emod_lt_of_pos (rA + wk) (show 0 < p by omega)
                  unfold twD at hr
                  generalize (rA + wk) % p = m at *
                  have hw2 : IntKind.i64.wrap m = m := IntWalk.i64_in _ (by omega)
                  have hw3 : IntKind.i64.wrap (rB - m) = rB - m := IntWalk.i64_in _ (by omega)
                  have hw4 : IntKind.i64.wrap (rB - m + p) = rB - m + p := IntWalk.i64_in _ (by omega)
                  have htm2 : (rB - m + p).tmod p = (rB - m + p) % p := Int.tmod_eq_emod_of_nonneg (by omega)
                  have hq0 := Int.emod_nonneg (rB - m + p) hp0
                  have hq1 := Int.emod_lt_of_pos (rB - m + p) (show 0 < p by omega)
                  generalize (rB - m + p) % p = q at *
                  have hw5 : IntKind.i64.wrap q = q := IntWalk.i64_in _ (by omega)
                  have hw6 : IntKind.i64.wrap (wk + q) = wk + q := IntWalk.i64_in _ (by omega)
                  have hr := Lib.hid hr
                  have hbb := Lib.hid hbb
                  clear HT0 HTB HTf HTw HSt hNa hNb
                  go_wp2_with fail
                  go_region_held3 (fun w' => w'.cell? ⟨w.heap.size, 0, none⟩ = some (.slice a0 n.stops.length c) ∧ w'.cell? ⟨w.heap.size, 1, none⟩ = some (.slice (some ⟨sb, so, none⟩) n.lines.length c') ∧ w'.cell? ⟨g, go + ka * 2, none⟩ = some (.int .i64 (la : Int)) ∧ w'.cell? ⟨g, go + ka * 2 + 1, none⟩ = some (.int .i64 xo) ∧ w'.cell? ⟨g, go + kb * 2, none⟩ = some (.int .i64 (lb : Int)) ∧ w'.cell? ⟨g, go + kb * 2 + 1, none⟩ = some (.int .i64 yo) ∧ Below w4.heap.size w4 w')
                    (first | (exact ⟨p0, p1, ya0, ya1, yb0, yb1, (Below.refl _ _).drew⟩) | (exact keepT6 hb (by assumption)))
                    ((go_at_call 82; refine (HCa.out _ (HB4.out.1.trans ((belT6 (by assumption)).mono HB4.out.1.size))).mono ?_; rintro e w' ⟨rfl, hb⟩))
                  obtain ⟨p0, p1, ya0, ya1, yb0, yb1, qb⟩ := (by assumption : _ ∧ _)
                  rename World => w5
                  have HB5 : Hid (Below w.heap.size w w5 ∧ w.heap.size < w5.heap.size) := ⟨HB4.out.1.trans (qb.mono HB4.out.1.size), by have := qb.size; have := HB4.out.2; omega⟩
                  clear qb HB4 HCa
                  go_wp2_with fail
                  go_region_held3 (fun w' => w'.cell? ⟨w.heap.size, 0, none⟩ = some (.slice a0 n.stops.length c) ∧ w'.cell? ⟨w.heap.size, 1, none⟩ = some (.slice (some ⟨sb, so, none⟩) n.lines.length c') ∧ w'.cell? ⟨g, go + ka * 2, none⟩ = some (.int .i64 (la : Int)) ∧ w'.cell? ⟨g, go + ka * 2 + 1, none⟩ = some (.int .i64 xo) ∧ w'.cell? ⟨g, go + kb * 2, none⟩ = some (.int .i64 (lb : Int)) ∧ w'.cell? ⟨g, go + kb * 2 + 1, none⟩ = some (.int .i64 yo) ∧ Below w5.heap.size w5 w')
                    (first | (exact ⟨p0, p1, ya0, ya1, yb0, yb1, (Below.refl _ _).drew⟩) | (exact keepT6 hb (by assumption)))
                    ((go_at_call 82; refine (HCb.out _ (HB5.out.1.trans ((belT6 (by assumption)).mono HB5.out.1.size))).mono ?_; rintro e w' ⟨rfl, hb⟩))
                  obtain ⟨p0, p1, ya0, ya1, yb0, yb1, qb⟩ := (by assumption : _ ∧ _)
                  rename World => w6
                  have HB6 : Hid (Below w.heap.size w w6 ∧ w.heap.size < w6.heap.size) := ⟨HB5.out.1.trans (qb.mono HB5.out.1.size), by have := qb.size; have := HB5.out.2; omega⟩
                  clear qb HB5 HCb
                  go_wp2_with fail
                  go_ret2
                  exact ⟨by (try rw [hr.out]); (try rw [hbb.out]); rfl, HB6.out.1⟩
          · have HIW : Hid (∀ W : World, Calls Try.prog 66 #[.int .i64 wk, .int .i64 0, .int .i64 60] W fun e w' => e = .returned (.bool false) ∧ W = w') := fun W => l1In_no _ _ _ W hiw
            have ht : twB n p xs a b stop wk = false := twB_no (fun h => hiw h.2.2.2.1)
            rw [twF_no ht, ht]
            clear hm ht HRs HPt HNt hab hask hgd hia hib hiw
            go_enter Try.func33, Try.ntmps33
            go_wp2_with fail
            go_at_call 57
            refine (HG.out _ ((Below.refl _ _).alloc (Nat.le_refl _) _)).mono ?_
            rintro e w1 ⟨rfl, hb1⟩
            have HB1 : Hid (Below w.heap.size w w1 ∧ w.heap.size < w1.heap.size) := ⟨((Below.refl _ _).alloc (Nat.le_refl _) _).trans (hb1.mono (by simp)), by have := hb1.size; simp at this; omega⟩
            have p0 : w1.cell? ⟨w.heap.size, 0, none⟩ = some (.slice a0 n.stops.length c) := bkeep hb1 (by go_simp)
            have p1 : w1.cell? ⟨w.heap.size, 1, none⟩ = some (.slice a' n.lines.length c') := bkeep hb1 (by go_simp)
            clear hb1 HG
            go_wp2_with fail
            go_at_call 66
            refine (HIA.out _).mono ?_
            rintro e w2 ⟨rfl, rfl⟩
            go_wp2_with fail
            go_at_call 66
            refine (HIB.out _).mono ?_
            rintro e w2 ⟨rfl, rfl⟩
            go_wp2_with fail
            go_at_call 66
            refine (HIW.out _).mono ?_
            rintro e w2 ⟨rfl, rfl⟩
            go_wp2_with fail
            go_ret2
            exact ⟨rfl, HB1.out.1⟩
      · have HIB : Hid (∀ W : World, Calls Try.prog 66 #[.int .i64 b, .int .i64 0, .int .i64 ((xs.length : Int) - 1)] W fun e w' => e = .returned (.bool false) ∧ W = w') := fun W => l1In_no _ _ _ W hib
        have ht : twB n p xs a b stop wk = false := twB_no (fun h => by have := (mtB_iff h.1).2.2; omega)
        rw [twF_no ht, ht]
        clear ht HRs HPt HNt hask hgd hia hib
        go_enter Try.func33, Try.ntmps33
        go_wp2_with fail
        go_at_call 57
        refine (HG.out _ ((Below.refl _ _).alloc (Nat.le_refl _) _)).mono ?_
        rintro e w1 ⟨rfl, hb1⟩
        have HB1 : Hid (Below w.heap.size w w1 ∧ w.heap.size < w1.heap.size) := ⟨((Below.refl _ _).alloc (Nat.le_refl _) _).trans (hb1.mono (by simp)), by have := hb1.size; simp at this; omega⟩
        have p0 : w1.cell? ⟨w.heap.size, 0, none⟩ = some (.slice a0 n.stops.length c) := bkeep hb1 (by go_simp)
        have p1 : w1.cell? ⟨w.heap.size, 1, none⟩ = some (.slice a' n.lines.length c') := bkeep hb1 (by go_simp)
        clear hb1 HG
        go_wp2_with fail
        go_at_call 66
        refine (HIA.out _).mono ?_
        rintro e w2 ⟨rfl, rfl⟩
        go_wp2_with fail
        go_at_call 66
        refine (HIB.out _).mono ?_
        rintro e w2 ⟨rfl, rfl⟩
        go_wp2_with fail
        go_ret2
        exact ⟨rfl, HB1.out.1⟩
    · have HIA : Hid (∀ W : World, Calls Try.prog 66 #[.int .i64 a, .int .i64 0, .int .i64 ((xs.length : Int) - 1)] W fun e w' => e = .returned (.bool false) ∧ W = w') := fun W => l1In_no _ _ _ W hia
      have ht : twB n p xs a b stop wk = false := twB_no (fun h => by have := (mtB_iff h.1).2.1; omega)
      rw [twF_no ht, ht]
      clear ht HRs HPt HNt hask hgd hia
      go_enter Try.func33, Try.ntmps33
      go_wp2_with fail
      go_at_call 57
      refine (HG.out _ ((Below.refl _ _).alloc (Nat.le_refl _) _)).mono ?_
      rintro e w1 ⟨rfl, hb1⟩
      have HB1 : Hid (Below w.heap.size w w1 ∧ w.heap.size < w1.heap.size) := ⟨((Below.refl _ _).alloc (Nat.le_refl _) _).trans (hb1.mono (by simp)), by have := hb1.size; simp at this; omega⟩
      have p0 : w1.cell? ⟨w.heap.size, 0, none⟩ = some (.slice a0 n.stops.length c) := bkeep hb1 (by go_simp)
      have p1 : w1.cell? ⟨w.heap.size, 1, none⟩ = some (.slice a' n.lines.length c') := bkeep hb1 (by go_simp)
      clear hb1 HG
      go_wp2_with fail
      go_at_call 66
      refine (HIA.out _).mono ?_
      rintro e w2 ⟨rfl, rfl⟩
      go_wp2_with fail
      go_ret2
      exact ⟨rfl, HB1.out.1⟩

end Go.Proofs.Ytfgkfdkdjegaiaa
