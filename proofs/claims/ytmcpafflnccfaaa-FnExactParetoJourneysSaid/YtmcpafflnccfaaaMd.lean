/-
  JOINED TEXTS, each under its own namespace line: FirstJ, EarliestJ.
-/
import Derived.Test.YtmcpafflnccfaaaExtend
import Derived.Test.YtmcpafflnccfaaaL8Arr
import Derived.Test.YtmcpafflnccfaaaEarliestArrivals
namespace Go.Proofs.Ytmcpafflnccfaaa
open Go.RowKit Go.Maps Jrn
set_option linter.unusedVariables false
set_option linter.unusedSimpArgs false

theorem ext_any {t : TTD} {ch too A : Int} {a : Option Addr} {c : Nat} {a' : Option Addr} {c' : Nat} {b : Option Addr} {d : Nat} {xb : Nat} (hg : TTGood t) (h0 : 0 ≤ ch) (h1 : ch ≤ 30) : ∀ k, ExtOk t ch too A a c a' c' b d xb (k + 1)
  | 0 => ext_step hg h0 h1 0 (fun h => absurd rfl h)
  | k + 1 => ext_step hg h0 h1 (k + 1) (fun _ => ext_any hg h0 h1 k)
theorem build_search (s l tr : Value) (ch too A : Int) (w : World) : (Instr.build 159 #[(0, .agg #[s, l, tr]), (1, .int .i64 ch), (2, .int .i64 too), (3, .int .i64 A)]).run Try.prog w = .ok (.agg #[s, l, tr, .int .i64 ch, .int .i64 too, .int .i64 A]) w :=
  run_build w 159 #[(0, .agg #[s, l, tr]), (1, .int .i64 ch), (2, .int .i64 too), (3, .int .i64 A)] #[s, l, tr, .int .i64 ch, .int .i64 too, .int .i64 A] (by kernel_rfl)

set_option maxRecDepth 100000 in
set_option maxHeartbeats 4000000 in
theorem l8First_any (v : Value) (t : TTD) (ch frm too at_ A : Int) (n : Nat) (w : World) (hr : TTAt w v t) (hg : TTGood t) (h0 : 0 ≤ ch) (h1 : ch ≤ 30) (hn : n + 1 ≤ 4) :
    Calls Try.prog 86 #[v, .int .i64 ch, .int .i64 frm, .int .i64 too, .int .i64 at_, .int .i64 A, .int .i64 ((n : Int) + 1)] w fun e w' => (∃ v', e = .returned v' ∧ w'.ownsRow w.heap.size 62 5 v' (extR [] (dfsF (candsF t.net.stops.length (rides t) A) ch too A (n + 1) [] frm at_)).length (legC (extR [] (dfsF (candsF t.net.stops.length (rides t) A) ch too A (n + 1) [] frm at_)))) ∧ Below w.heap.size w w' := by
  have HTT := Lib.hid hr
  obtain ⟨a, c, a', c', b, d, rfl, -, -⟩ := tt_open hr
  clear hr
  have HX := Lib.hid (fun xb => ext_any (t := t) (ch := ch) (too := too) (A := A) (a := a) (c := c) (a' := a') (c' := c') (b := b) (d := d) (xb := xb) hg h0 h1 n)
  unfold ExtOk at HX
  have hbs := fun W => build_search (.slice a t.net.stops.length c) (.slice a' t.net.lines.length c') (.slice b t.trips.length d) ch too A W
  obtain ⟨wa, hwa⟩ : ∃ wa : World, wa = (w.alloc (.cells #[.slice a t.net.stops.length c, .slice a' t.net.lines.length c', .slice b t.trips.length d] 38)).alloc (.cells #[.slice a t.net.stops.length c, .slice a' t.net.lines.length c', .slice b t.trips.length d, .int .i64 ch, .int .i64 too, .int .i64 A] 159) := ⟨_, rfl⟩
  obtain ⟨wb, hwb⟩ : ∃ wb : World, wb = wa.alloc (.cells #[] 62) := ⟨_, rfl⟩
  have hba : Below w.heap.size w wa := by rw [hwa]; exact ((Below.refl _ _).alloc (Nat.le_refl _) _).alloc (by simp) _
  have hbb : Below w.heap.size w wb := by rw [hwb]; exact hba.alloc hba.size _
  have hab : Below wa.heap.size wa wb := by rw [hwb]; exact (Below.refl _ _).alloc (Nat.le_refl _) _
  have hsz : wa.heap.size = w.heap.size + 2 := by rw [hwa]; simp
  have p0 : wb.cell? ⟨w.heap.size + 1, 0, none⟩ = some (.slice a t.net.stops.length c) := bkeep hab (by rw [hwa]; go_simp)
  have p1 : wb.cell? ⟨w.heap.size + 1, 1, none⟩ = some (.slice a' t.net.lines.length c') := bkeep hab (by rw [hwa]; go_simp)
  have p2 : wb.cell? ⟨w.heap.size + 1, 2, none⟩ = some (.slice b t.trips.length d) := bkeep hab (by rw [hwa]; go_simp)
  have p3 : wb.cell? ⟨w.heap.size + 1, 3, none⟩ = some (.int .i64 ch) := bkeep hab (by rw [hwa]; go_simp)
  have p4 : wb.cell? ⟨w.heap.size + 1, 4, none⟩ = some (.int .i64 too) := bkeep hab (by rw [hwa]; go_simp)
  have p5 : wb.cell? ⟨w.heap.size + 1, 5, none⟩ = some (.int .i64 A) := bkeep hab (by rw [hwa]; go_simp)
  have hL : LegsAt wb (.slice (some ⟨wa.heap.size, 0, none⟩) 0 0) [] := by rw [hwb]; exact legsAt_own (xs := []) (legs_new wa wa.heap.size (Nat.le_refl _))
  have HC := Lib.hid (HX.out (w.heap.size + 1) wb wa.heap.size 0 0 [] frm at_ (HTT.out.below rfl hbb) ⟨p0, p1, p2, p3, p4, p5⟩ hL (by simpa using hn))
  rw [hsz] at HC
  have HB := Lib.hid hbb
  have HWA := Lib.hid hwa
  have HWB := Lib.hid hwb
  clear p0 p1 p2 p3 p4 p5 hL hab hbb hba hwa hwb HX HTT hsz
  push_cast at HC
  generalize extR [] (dfsF (candsF t.net.stops.length (rides t) A) ch too A (n + 1) [] frm at_) = R at *
  go_enter Try.func86, Try.ntmps86
  go_wp2_with fail
  rw [← HWA.out, ← HWB.out]
  go_at_call 123
  refine HC.out.mono ?_
  rintro e w1 ⟨⟨v', rfl, hown⟩, hb⟩
  have HO := Lib.hid (own_base hown HB.out.size)
  have HB1 : Hid (Below w.heap.size w w1) := HB.out.trans (hb.mono HB.out.size)
  clear hown hb
  go_wp2_with fail
  go_ret
  exact ⟨⟨v', rfl, HO.out⟩, HB1.out⟩
end Go.Proofs.Ytmcpafflnccfaaa

namespace Go.Proofs.Ytmcpafflnccfaaa
open Go.RowKit Go.Maps Jrn
set_option linter.unusedVariables false
set_option linter.unusedSimpArgs false

theorem find4b (f : Nat → Bool) (m : Nat) (hm : 1 ≤ m ∧ m ≤ 4) (hy : f m = true) (hn : ∀ n, 1 ≤ n → n < m → f n = false) : [1, 2, 3, 4].find? f = some m := by
  have h : m = 1 ∨ m = 2 ∨ m = 3 ∨ m = 4 := by omega
  rcases h with rfl | rfl | rfl | rfl
  · simp only [List.find?, hy]
  · simp only [List.find?, hy, hn 1 (by omega) (by omega)]
  · simp only [List.find?, hy, hn 1 (by omega) (by omega), hn 2 (by omega) (by omega)]
  · simp only [List.find?, hy, hn 1 (by omega) (by omega), hn 2 (by omega) (by omega), hn 3 (by omega) (by omega)]
/-- what the first journey is, by the model's arrivals -/
theorem best_neg {t : TTD} {ch frm too at_ : Int} (h : EOk t ch frm at_) (hto : 0 ≤ too ∧ too < (t.net.stops.length : Int)) (hne : frm ≠ too) {A : Int}
    (hA : (arrT t.net.stops.length (rides t) ch frm at_ 4).getD too.toNat 0 = A) (hn : A < 0) : Jrn.bestF (allLegs (rides t)) ch too 4 frm at_ = none := by
  have he := first_eq (rides_ok h.1) (rides_in h.1) h.2.1.1 h.2.2.1.1 h.2.2.1.2 h.2.2.2.1 hto.1 hto.2 hne (cands := fun A => candsF t.net.stops.length (rides t) A) (fun A => cands_ok (rides_ok h.1) (rides_in h.1) A)
  rw [← he]; unfold firstF; rw [hA]; exact if_pos hn
theorem best_at {t : TTD} {ch frm too at_ : Int} (h : EOk t ch frm at_) (hto : 0 ≤ too ∧ too < (t.net.stops.length : Int)) (hne : frm ≠ too) {A : Int}
    (hA : (arrT t.net.stops.length (rides t) ch frm at_ 4).getD too.toNat 0 = A) (hn : ¬ A < 0) {k : Nat} (hk : k + 1 ≤ 4) (hy : (arrT t.net.stops.length (rides t) ch frm at_ (k + 1)).getD too.toNat 0 = A)
    (hno : ∀ j, 1 ≤ j → j < k + 1 → (arrT t.net.stops.length (rides t) ch frm at_ j).getD too.toNat 0 ≠ A) : Jrn.bestF (allLegs (rides t)) ch too 4 frm at_ = dfsF (candsF t.net.stops.length (rides t) A) ch too A (k + 1) [] frm at_ := by
  have he := first_eq (rides_ok h.1) (rides_in h.1) h.2.1.1 h.2.2.1.1 h.2.2.1.2 h.2.2.2.1 hto.1 hto.2 hne (cands := fun A => candsF t.net.stops.length (rides t) A) (fun A => cands_ok (rides_ok h.1) (rides_in h.1) A)
  rw [← he]; unfold firstF; rw [hA]
  have hl : legsN t.net.stops.length (rides t) ch frm at_ too A = some (k + 1) := find4b _ _ (by omega) (by simpa using hy) (fun n h1 h2 => by simpa using hno n h1 h2)
  simp only [if_neg hn, hl]
theorem extR_nil (o : Option (List LegD)) : extR [] o = o.getD [] := by cases o <;> rfl

set_option maxRecDepth 100000 in
set_option maxHeartbeats 8000000 in
theorem l8Best_any (v : Value) (t : TTD) (ch frm too at_ : Int) (w : World) (hr : TTAt w v t) (h : EOk t ch frm at_) (hto : 0 ≤ too ∧ too < (t.net.stops.length : Int)) (hne : frm ≠ too) :
    Calls Try.prog 52 #[v, .int .i64 ch, .int .i64 frm, .int .i64 too, .int .i64 at_] w fun e w' => (∃ v', e = .returned v' ∧ w'.ownsRow w.heap.size 62 5 v' ((Jrn.bestF (allLegs (rides t)) ch too 4 frm at_).getD []).length (legC ((Jrn.bestF (allLegs (rides t)) ch too 4 frm at_).getD []))) ∧ Below w.heap.size w w' := by
  have HAr := Lib.hid (fun n (hn : n ≤ 4) W (hW : Below w.heap.size w W) => l8Arrivals_any v t ch frm at_ n W (hr.below rfl hW) h.1 h.2.1.1 h.2.1.2 h.2.2.1.1 h.2.2.1.2 h.2.2.2.1 (by have := h.2.2.2.2; omega) hn)
  have HFi := Lib.hid (fun A n (hn : n + 1 ≤ 4) W (hW : Below w.heap.size w W) => l8First_any v t ch frm too at_ A n W (hr.below rfl hW) h.1 h.2.1.1 h.2.1.2 hn)
  obtain ⟨q, rfl⟩ := Int.eq_ofNat_of_zero_le hto.1
  have hq : q < t.net.stops.length := by have := hto.2; omega
  have h8 : t.net.stops.length ≤ 8 := h.1.1.1.2.1
  obtain ⟨A, HA⟩ : ∃ A, Hid ((arrT t.net.stops.length (rides t) ch frm at_ 4).getD q 0 = A) := ⟨_, rfl⟩
  have HNeg := Lib.hid (fun (hn : A < 0) => best_neg h hto hne (A := A) (by rw [Int.toNat_natCast]; exact HA.out) hn)
  have HAt := Lib.hid (fun (hn : ¬ A < 0) k (hk : k + 1 ≤ 4) hy hno => best_at h hto hne (A := A) (by rw [Int.toNat_natCast]; exact HA.out) hn (k := k) hk hy hno)
  simp only [Int.toNat_natCast] at HAt
  have HLn := Lib.hid (fun n => arrT_len t.net.stops.length (rides t) ch frm at_ n)
  obtain ⟨a, c, a', c', b, d, rfl, -, -⟩ := tt_open hr
  clear hr h hto hne
  obtain ⟨B, HBe⟩ : ∃ B, Hid (Jrn.bestF (allLegs (rides t)) ch (q : Int) 4 frm at_ = B) := ⟨_, rfl⟩
  rw [HBe.out]
  have hq1 : (q : Int) < (t.net.stops.length : Int) := by omega
  have hq0 : (0 : Int) ≤ (q : Int) := by omega
  have HA4 := Lib.hid (HAr.out 4 (Nat.le_refl _))
  go_enter Try.func52, Try.ntmps52
  go_wp2_with fail
  go_at_call 85
  refine (HA4.out _ ((Below.refl _ _).alloc (Nat.le_refl _) _)).mono ?_
  rintro e w1 ⟨⟨v', rfl, hown⟩, hb⟩
  have HB1 : Hid (Below w.heap.size w w1) := ((Below.refl _ _).alloc (Nat.le_refl _) _).trans (hb.mono (by simp))
  have z0 : w1.cell? ⟨w.heap.size, 0, none⟩ = some (.slice a t.net.stops.length c) := bkeep hb (by go_simp)
  have z1 : w1.cell? ⟨w.heap.size, 1, none⟩ = some (.slice a' t.net.lines.length c') := bkeep hb (by go_simp)
  have z2 : w1.cell? ⟨w.heap.size, 2, none⟩ = some (.slice b t.trips.length d) := bkeep hb (by go_simp)
  obtain ⟨av, ac, rfl⟩ := own_shape hown
  obtain ⟨ga, rfl, -, -, hca⟩ := ownI_at hown (by omega) (HLn.out 4)
  have hx := hca q hq
  rw [HA.out] at hx
  clear hb hown hca HA4
  by_cases hA0 : A < 0
  · have HN := Lib.hid (HNeg.out hA0)
    rw [HBe.out] at HN
    go_wp2_with fail
    go_ret
    exact ⟨⟨.slice (some ⟨w1.heap.size, 0, none⟩) 0 0, rfl, by rw [HN.out]; exact legs_new w1 _ HB1.out.size⟩, HB1.out.alloc HB1.out.size _⟩
  · have HAt1 := Lib.hid (HAt.out (by omega))
    clear HAt HNeg
    go_wp2_with fail
    go_loopw [12] (fun p wr => ∃ k : Nat, k ≤ 4 ∧ p = .int .i64 ((k : Int) + 1) ∧ Hid (∀ j, 1 ≤ j → j < k + 1 → (arrT t.net.stops.length (rides t) ch frm at_ j).getD q 0 ≠ A) ∧ wr.cell? ⟨w.heap.size, 0, none⟩ = some (.slice a t.net.stops.length c) ∧ wr.cell? ⟨w.heap.size, 1, none⟩ = some (.slice a' t.net.lines.length c') ∧ wr.cell? ⟨w.heap.size, 2, none⟩ = some (.slice b t.trips.length d) ∧ Hid (Below w.heap.size w wr)) (fun p _ => 5 - (RowKit.intOf p).toNat)
    case atStart => exact ⟨0, by omega, by simp, fun j h1 h2 => by omega, z0, z1, z2, HB1⟩
    case round =>
      clear z0 z1 z2 HB1
      obtain ⟨k, hk, rfl, HNo, p0, p1, p2, HB⟩ := hrel
      by_cases hlt : k < 4
      · have HAk := Lib.hid (HAr.out (k + 1) (by omega))
        push_cast at HAk
        have hk1 : (k : Int) + 1 ≤ 4 := by omega
        go_wp2_with fail
        go_at_call 85
        refine (HAk.out _ HB.out).mono ?_
        rintro e w2 ⟨⟨v', rfl, hown⟩, hb⟩
        have HB2 : Hid (Below w.heap.size w w2) := HB.out.trans (hb.mono HB.out.size)
        have q0 := bkeep hb p0
        have q1 := bkeep hb p1
        have q2 := bkeep hb p2
        obtain ⟨av, ac, rfl⟩ := own_shape hown
        obtain ⟨ga, rfl, -, -, hca⟩ := ownI_at hown (by omega) (HLn.out (k + 1))
        have hx := hca q hq
        obtain ⟨X, HX⟩ : ∃ X, Hid ((arrT t.net.stops.length (rides t) ch frm at_ (k + 1)).getD q 0 = X) := ⟨_, rfl⟩
        rw [HX.out] at hx
        clear hb hown hca HAk p0 p1 p2 HB
        by_cases he : X = A
        · have hxb : (X == A) = true := by simp [he]
          have HR := Lib.hid (HAt1.out k (by omega) (HX.out.trans he) HNo.out)
          rw [HBe.out] at HR
          have HF := Lib.hid (HFi.out A k (by omega))
          rw [← HR.out, extR_nil] at HF
          clear he
          go_wp2_with fail
          go_at_call 86
          refine (HF.out _ HB2.out).mono ?_
          rintro e w3 ⟨⟨v', rfl, hown⟩, hb⟩
          have HO := Lib.hid (own_base hown HB2.out.size)
          have HB3 : Hid (Below w.heap.size w w3) := HB2.out.trans (hb.mono HB2.out.size)
          clear hown hb q0 q1 q2 hx
          go_wp2_with fail
          go_ret
          exact ⟨⟨v', rfl, HO.out⟩, HB3.out⟩
        · have hxb : (X == A) = false := by simp [he]
          have HNo2 : Hid (∀ j, 1 ≤ j → j < k + 1 + 1 → (arrT t.net.stops.length (rides t) ch frm at_ j).getD q 0 ≠ A) := by
            intro j h1 h2
            by_cases e : j = k + 1
            · subst e; rw [HX.out]; exact he
            · exact HNo.out j h1 (by omega)
          clear he
          go_wp2_with fail
          go_roundw
          case rel => exact ⟨k + 1, by omega, by go_num, HNo2, q0, q1, q2, HB2⟩
          case measure => simp [RowKit.intOf]; omega
      · exact absurd HA.out (HNo.out 4 (by omega) (by omega))

set_option maxRecDepth 100000 in
set_option maxHeartbeats 4000000 in
theorem specEJ_any (v : Value) (t : TTD) (ch frm too at_ : Int) (w : World) (hr : TTAt w v t) (hf : TTFits t) (hs : TTSmall t) :
    Calls Try.prog 12 #[v, .int .i64 ch, .int .i64 frm, .int .i64 too, .int .i64 at_] w fun e w' => LAns w.heap.size (ejO t ch frm too at_) e w' ∧ Below w.heap.size w w' := by
  have HF := Lib.hid (fun W (hW : Below w.heap.size w W) => l8Pair_any v t ch frm too at_ W (hr.below rfl hW) hf hs)
  have HBs := Lib.hid (fun (h : EOk t ch frm at_) hto hne W (hW : Below w.heap.size w W) => l8Best_any v t ch frm too at_ W (hr.below rfl hW) h hto hne)
  obtain ⟨a, c, a', c', b, d, rfl, -, -⟩ := tt_open hr
  clear hr hf hs
  cases hp : pairB t ch frm too at_ with
  | false =>
    rw [hp] at HF
    have HR : Hid (ejO t ch frm too at_ = none) := by show _ = _; unfold ejO; rw [hp]; rfl
    rw [HR.out]
    clear hp HBs
    go_enter Try.func12, Try.ntmps12
    go_wp2_with fail
    go_at_call 51
    refine (HF.out _ ((Below.refl _ _).alloc (Nat.le_refl _) _)).mono ?_
    rintro e w1 ⟨rfl, hb⟩
    have HB1 : Hid (Below w.heap.size w w1) := ((Below.refl _ _).alloc (Nat.le_refl _) _).trans (hb.mono (by simp))
    clear hb
    go_wp2_with fail
    go_ret2
    exact ⟨⟨.slice (some ⟨w1.heap.size, 0, none⟩) 0 0, rfl, legs_new w1 _ HB1.out.size⟩, HB1.out.alloc HB1.out.size _⟩
  | true =>
    rw [hp] at HF
    obtain ⟨hok, hto, hne⟩ := pairB_iff hp
    have HR : Hid (ejO t ch frm too at_ = Jrn.bestF (allLegs (rides t)) ch too 4 frm at_) := by show _ = _; unfold ejO; rw [hp]; rfl
    rw [HR.out]
    have HB := Lib.hid (HBs.out hok hto hne)
    have HNe := Lib.hid (fun c hc => best_sound (L := allLegs (rides t)) ch too 4 frm at_ c hc)
    clear hp hok hto hne HBs HR
    generalize Jrn.bestF (allLegs (rides t)) ch too 4 frm at_ = B at *
    go_enter Try.func12, Try.ntmps12
    go_wp2_with fail
    go_at_call 51
    refine (HF.out _ ((Below.refl _ _).alloc (Nat.le_refl _) _)).mono ?_
    rintro e w1 ⟨rfl, hb⟩
    have HB1 : Hid (Below w.heap.size w w1) := ((Below.refl _ _).alloc (Nat.le_refl _) _).trans (hb.mono (by simp))
    have z0 : w1.cell? ⟨w.heap.size, 0, none⟩ = some (.slice a t.net.stops.length c) := bkeep hb (by go_simp)
    have z1 : w1.cell? ⟨w.heap.size, 1, none⟩ = some (.slice a' t.net.lines.length c') := bkeep hb (by go_simp)
    have z2 : w1.cell? ⟨w.heap.size, 2, none⟩ = some (.slice b t.trips.length d) := bkeep hb (by go_simp)
    clear hb
    go_wp2_with fail
    go_at_call 52
    refine (HB.out _ HB1.out).mono ?_
    rintro e w2 ⟨⟨v', rfl, hown⟩, hb⟩
    have HB2 : Hid (Below w.heap.size w w2) := HB1.out.trans (hb.mono HB1.out.size)
    have HO := Lib.hid (own_base hown HB1.out.size)
    obtain ⟨av, ac, rfl⟩ := own_shape hown
    clear hb hown z0 z1 z2
    cases B with
    | none =>
      go_wp2_with fail
      go_ret2
      exact ⟨⟨_, by first | rfl | simp, HO.out⟩, HB2.out⟩
    | some c9 =>
      have hpos : (0 : Int) < (((some c9 : Option (List LegD)).getD []).length : Int) := by
        have := (HNe.out c9 rfl).1
        have := List.length_pos_iff.2 this
        show (0 : Int) < (c9.length : Int)
        omega
      have HP := Lib.hid hpos
      go_wp2_with fail
      go_ret2
      exact ⟨⟨_, by first | rfl | (simp; have := HP.out; simpa using this), HO.out⟩, HB2.out⟩

theorem bothEarliestJourney (t : TTD) (hf : TTFits t) (hs : TTSmall t) (ch : Int) (w1 : (Lit.int .i64 ch).wf = true) (frm : Int) (w2 : (Lit.int .i64 frm).wf = true) (too : Int) (w3 : (Lit.int .i64 too).wf = true) (at_ : Int) (w4 : (Lit.int .i64 at_).wf = true) : ∃ (r : List LegD) (b : Bool), LegsSmall r ∧ ∀ v w, TTAt w v t →
    Calls Try.prog 12 #[v, .int .i64 ch, .int .i64 frm, .int .i64 too, .int .i64 at_] w (fun e w' => ∃ v', e = .returned (.tuple #[v', .bool b]) ∧ LegsIn w.heap.size w'.heap.size w' v' r ∧ Below w.heap.size w w') ∧
    Calls Try.prog 14 #[v, .int .i64 ch, .int .i64 frm, .int .i64 too, .int .i64 at_] w (fun e w' => ∃ v', e = .returned (.tuple #[v', .bool b]) ∧ LegsIn w.heap.size w'.heap.size w' v' r ∧ Below w.heap.size w w') :=
  ⟨(ejO t ch frm too at_).getD [], (ejO t ch frm too at_).isSome, by
    unfold ejO LegsSmall
    split
    · cases hb : Jrn.bestF (allLegs (rides t)) ch too 4 frm at_ with
      | none => simp
      | some c => have := (best_sound ch too 4 frm at_ c hb).2.2.1; show c.length ≤ _; omega
    · simp, fun v w h => ⟨(specEJ_any v t ch frm too at_ w h hf hs).mono fun e w' ⟨⟨v', he, ho⟩, hb⟩ => ⟨v', he, LegsIn.mk ho, hb⟩, (implEJ_any v t ch frm too at_ w h hf hs).mono fun e w' ⟨⟨v', he, ho⟩, hb⟩ => ⟨v', he, LegsIn.mk ho, hb⟩⟩⟩
end Go.Proofs.Ytmcpafflnccfaaa
