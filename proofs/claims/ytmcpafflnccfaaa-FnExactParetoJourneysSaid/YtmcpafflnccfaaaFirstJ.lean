/-
  CONTRACT of spec.l8First: the first journey with a number of legs and an arrival.
-/
import Derived.Test.YtmcpafflnccfaaaExtend
namespace Go.Proofs.Ytmcpafflnccfaaa
open Go.RowKit Go.Maps Jrn
set_option linter.unusedVariables false
set_option linter.unusedSimpArgs false

theorem ext_any {t : TTD} {ch too A : Int} {a : Option Addr} {c : Nat} {a' : Option Addr} {c' : Nat} {b : Option Addr} {d : Nat} {xb : Nat} (hg : TTGood t) (h0 : 0 ≤ ch) (h1 : ch ≤ 30) : ∀ k, ExtOk t ch too A a c a' c' b d xb (k + 1)
  | 0 => ext_step hg h0 h1 0 (fun h => absurd rfl h)
  | k + 1 => ext_step hg h0 h1 (k + 1) (fun _ => ext_any hg h0 h1 k)
theorem build_search (s l tr : Value) (ch too A : Int) (w : World) : (Instr.build 159 #[(0, .agg #[s, l, tr]), (1, .int .i64 ch), (2, .int .i64 too), (3, .int .i64 A)]).run Try.prog w = .ok (.agg #[s, l, tr, .int .i64 ch, .int .i64 too, .int .i64 A]) w :=
  run_build w 159 #[(0, .agg #[s, l, tr]), (1, .int .i64 ch), (2, .int .i64 too), (3, .int .i64 A)] #[s, l, tr, .int .i64 ch, .int .i64 too, .int .i64 A] (by kernel_rfl)

set_option maxRecDepth 100000 in
set_option maxHeartbeats 4000000 in
theorem l8First_any (v : Value) (t : TTD) (ch frm too at_ A : Int) (n : Nat) (w : World) (hr : TTAt w v t) (hg : TTGood t) (h0 : 0 ≤ ch) (h1 : ch ≤ 30) (hn : n + 1 ≤ 4) :
    Calls Try.prog 86 #[v, .int .i64 ch, .int .i64 frm, .int .i64 too, .int .i64 at_, .int .i64 A, .int .i64 ((n : Int) + 1)] w fun e w' => (∃ v', e = .returned v' ∧ w'.ownsRow w.heap.size 62 5 v' (extR [] (dfsF (candsF t.net.stops.length (rides t) A) ch too A (n + 1) [] frm at_)).length (legC (extR [] (dfsF (candsF t.net.stops.length (rides t) A) ch too A (n + 1) [] frm at_)))) ∧ Below w.heap.size w w' := by
  have HTT := Lib.hid hr
  obtain ⟨a, c, a', c', b, d, rfl, -, -⟩ := tt_open hr
  clear hr
  have HX := Lib.hid (fun xb => ext_any (t := t) (ch := ch) (too := too) (A := A) (a := a) (c := c) (a' := a') (c' := c') (b := b) (d := d) (xb := xb) hg h0 h1 n)
  unfold ExtOk at HX
  have hbs := fun W => build_search (.slice a t.net.stops.length c) (.slice a' t.net.lines.length c') (.slice b t.trips.length d) ch too A W
  obtain ⟨wa, hwa⟩ : ∃ wa : World, wa = (w.alloc (.cells #[.slice a t.net.stops.length c, .slice a' t.net.lines.length c', .slice b t.trips.length d] 38)).alloc (.cells #[.slice a t.net.stops.length c, .slice a' t.net.lines.length c', .slice b t.trips.length d, .int .i64 ch, .int .i64 too, .int .i64 A] 159) := ⟨_, rfl⟩
  obtain ⟨wb, hwb⟩ : ∃ wb : World, wb = wa.alloc (.cells #[] 62) := ⟨_, rfl⟩
  have hba : Below w.heap.size w wa := by rw [hwa]; exact ((Below.refl _ _).alloc (Nat.le_refl _) _).alloc (by simp) _
  have hbb : Below w.heap.size w wb := by rw [hwb]; exact hba.alloc hba.size _
  have hab : Below wa.heap.size wa wb := by rw [hwb]; exact (Below.refl _ _).alloc (Nat.le_refl _) _
  have hsz : wa.heap.size = w.heap.size + 2 := by rw [hwa]; simp
  have p0 : wb.cell? ⟨w.heap.size + 1, 0, none⟩ = some (.slice a t.net.stops.length c) := bkeep hab (by rw [hwa]; go_simp)
  have p1 : wb.cell? ⟨w.heap.size + 1, 1, none⟩ = some (.slice a' t.net.lines.length c') := bkeep hab (by rw [hwa]; go_simp)
  have p2 : wb.cell? ⟨w.heap.size + 1, 2, none⟩ = some (.slice b t.trips.length d) := bkeep hab (by rw [hwa]; go_simp)
  have p3 : wb.cell? ⟨w.heap.size + 1, 3, none⟩ = some (.int .i64 ch) := bkeep hab (by rw [hwa]; go_simp)
  have p4 : wb.cell? ⟨w.heap.size + 1, 4, none⟩ = some (.int .i64 too) := bkeep hab (by rw [hwa]; go_simp)
  have p5 : wb.cell? ⟨w.heap.size + 1, 5, none⟩ = some (.int .i64 A) := bkeep hab (by rw [hwa]; go_simp)
  have hL : LegsAt wb (.slice (some ⟨wa.heap.size, 0, none⟩) 0 0) [] := by rw [hwb]; exact legsAt_own (xs := []) (legs_new wa wa.heap.size (Nat.le_refl _))
  have HC := Lib.hid (HX.out (w.heap.size + 1) wb wa.heap.size 0 0 [] frm at_ (HTT.out.below rfl hbb) ⟨p0, p1, p2, p3, p4, p5⟩ hL (by simpa using hn))
  rw [hsz] at HC
  have HB := Lib.hid hbb
  have HWA := Lib.hid hwa
  have HWB := Lib.hid hwb
  clear p0 p1 p2 p3 p4 p5 hL hab hbb hba hwa hwb HX HTT hsz
  push_cast at HC
  generalize extR [] (dfsF (candsF t.net.stops.length (rides t) A) ch too A (n + 1) [] frm at_) = R at *
  go_enter Try.func86, Try.ntmps86
  go_wp2_with fail
  rw [← HWA.out, ← HWB.out]
  go_at_call 123
  refine HC.out.mono ?_
  rintro e w1 ⟨⟨v', rfl, hown⟩, hb⟩
  have HO := Lib.hid (own_base hown HB.out.size)
  have HB1 : Hid (Below w.heap.size w w1) := HB.out.trans (hb.mono HB.out.size)
  clear hown hb
  go_wp2_with fail
  go_ret
  exact ⟨⟨v', rfl, HO.out⟩, HB1.out⟩
end Go.Proofs.Ytmcpafflnccfaaa
