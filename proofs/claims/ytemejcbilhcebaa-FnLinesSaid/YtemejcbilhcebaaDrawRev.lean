import Derived.Test.YtemejcbilhcebaaAnyNet
import Derived.Test.YtemejcbilhcebaaMk05
import Derived.Test.YtemejcbilhcebaaCurOf
namespace Go.Proofs.Ytemejcbilhcebaa
open Go.RowKit
set_option linter.unusedVariables false
set_option linter.unusedSimpArgs false

theorem build_curR (a : Option Addr) (n c : Nat) (w : World) : (Instr.build 75 #[(0, .slice a n c)]).run Try.prog w = .ok (.agg #[.slice a n c, .int .i64 0, .int .u64 0]) w :=
  run_build w 75 #[(0, .slice a n c)] #[.slice a n c, .int .i64 0, .int .u64 0] (by kernel_rfl)
def nmR : List ByteArray := [⟨#[98, 97, 99, 107]⟩, ⟨#[122, 57]⟩, ⟨#[108, 49]⟩, ⟨#[114, 49]⟩, ⟨#[]⟩]
theorem nmR_size : ∀ x ∈ nmR, x.size ≤ 20 := by decide
theorem below_curR {w w0 w' : World} {B b n : Nat} {v : Value} (hB : B ≤ b) (hb : Below B w w0 ∧ B ≤ w0.heap.size) (h : CurPost w0 b n v w') : Below B w w' :=
  hb.1.grown h.2.2 hb.2 (fun k hk => by cases hk; exact hB)

def AnyN (B : Nat) (nv : Value) (d : NetD) (w' : World) : Prop :=
  ((d.stops.length ≤ 8 ∧ ∀ s ∈ d.stops, s.size ≤ 20) ∧ d.lines.length ≤ 12 ∧ (∀ l ∈ d.lines, AnyLn l)) ∧ NetL B w'.heap.size w' nv d
theorem AnyN.set {B : Nat} {nv : Value} {d : NetD} {w' : World} (h : AnyN B nv d w') (q : Nat) (hq : q < B) (u0 u1 : Value) : AnyN B nv d ((w'.setCell ⟨q, 0, none⟩ u0).setCell ⟨q, 1, none⟩ u1) := by
  obtain ⟨h1, h5⟩ := h
  refine ⟨h1, (h5.keep (by simp [World.setCell]) (fun k a1 a2 a3 => ?_)).base (Nat.le_refl _) (by simp [World.setCell])⟩
  rw [Below.heap_setCell _ _ _ _ (by dsimp only; omega), Below.heap_setCell _ _ _ _ (by dsimp only; omega)]
theorem AnyN.cur {B b n : Nat} {nv v : Value} {d : NetD} {w w' : World} (h : AnyN B nv d w) (hp : CurPost w b n v w') (hb : b < B) : AnyN B nv d w' :=
  ⟨h.1, (h.2.keep hp.2.2.size (fun q a1 a2 a3 => hp.2.2.block q a3 (by simp; omega))).base (Nat.le_refl _) hp.2.2.size⟩
theorem AnyN.later {B : Nat} {nv : Value} {d : NetD} {w w' : World} (h : AnyN B nv d w) (hb : Below w.heap.size w w') : AnyN B nv d w' :=
  ⟨h.1, (h.2.later hb).base (Nat.le_refl _) hb.size⟩

set_option maxRecDepth 100000 in
set_option maxHeartbeats 4000000 in
theorem drawReverse_any (v : Value) (w : World) (h : CodeAt w v) :
    Calls Try.prog 7 #[v] w fun e w' => (∃ (d : NetD) (a : Option Addr) (c : Nat) (oa : Option Addr) (oc : Nat) (k : Int) (nm : ByteArray), e = .returned (.tuple #[.agg #[.slice a d.stops.length c, .slice oa d.lines.length oc], .int .i64 k, .string nm]) ∧ AnyN (w.heap.size + 1) (.agg #[.slice a d.stops.length c, .slice oa d.lines.length oc]) d w' ∧ (-1 ≤ k ∧ k ≤ 3) ∧ nm.size ≤ 20) ∧ Below w.heap.size w w' := by
  obtain ⟨l0, ca, cc, rfl, hcc⟩ := h
  obtain ⟨cn, hcn⟩ : ∃ cn, (l0.map byteV).length = cn := ⟨_, rfl⟩
  have hk : CodeAt (w.alloc (.cells #[.slice none 0 0, .slice none 0 0] 27)) (.slice ca (l0.map byteV).length cc) := ⟨l0, (show RowAt w (.slice ca (l0.map byteV).length cc) (l0.map byteV) from ⟨ca, cc, rfl, hcc⟩).below rfl ((Below.refl _ _).alloc (Nat.le_refl _) _)⟩
  obtain ⟨hc, ho, hb⟩ := cur_new _ _ hk
  rw [hcn] at hc ho hb
  rw [hcn]
  have hbuild := build_curR ca cn cc
  have hsz : (w.alloc (.cells #[.slice none 0 0, .slice none 0 0] 27)).heap.size = w.heap.size + 1 := World.size_alloc _ _
  rw [hsz] at hc ho
  obtain ⟨wa, hwa⟩ : ∃ wa : World, wa = (w.alloc (.cells #[.slice none 0 0, .slice none 0 0] 27)).alloc (.cells #[.slice ca cn cc, .int .i64 0, .int .u64 0] 75) := ⟨_, rfl⟩
  rw [← hwa] at hc ho hb
  have hza : wa.heap.size = w.heap.size + 2 := by rw [hwa]; simp
  have HB : Hid (Below w.heap.size w wa ∧ w.heap.size ≤ wa.heap.size) := ⟨((Below.refl _ w).alloc (Nat.le_refl _) _).trans (hb.mono (by simp)), by omega⟩
  have HZ : Hid (wa.cell? ⟨w.heap.size, 0, none⟩ = some (.slice none 0 0) ∧ wa.cell? ⟨w.heap.size, 1, none⟩ = some (.slice none 0 0) ∧ ∀ o, wa.frozen? ⟨w.heap.size, o, none⟩ = false) := by
    refine ⟨?_, ?_, fun o => ?_⟩
    · rw [hwa]; exact acell (by go_simp) _
    · rw [hwa]; exact acell (by go_simp) _
    · rw [hwa, World.frozen?_of_block (a := ⟨w.heap.size, o, none⟩) (Below.heap_alloc _ _ _ (by simp))]; go_simp
  have HV := Lib.hid ho
  have H1 := Lib.hid (anyNetwork_any (w.heap.size + 1) 0 (.slice ca cn cc) wa hc ho (by omega))
  have HWA := Lib.hid hwa
  clear hc ho hb hk hsz hcc hwa hcn
  go_enter Try.func7, Try.ntmps7
  go_wp2_with fail
  rw [← HWA.out]
  go_at_call 41
  refine H1.out.mono ?_
  rintro e w1 ⟨⟨d, a, c, oa, oc, u, rfl, hd8, hd12, hln, hnet, hu⟩, hp⟩
  rw [hza] at hnet
  have HN : Hid (AnyN (w.heap.size + 2) (.agg #[.slice a d.stops.length c, .slice oa d.lines.length oc]) d w1) := ⟨⟨hd8, hd12, hln⟩, hnet.base (by omega) hu⟩
  have H2 := Lib.hid (pick_any (w.heap.size + 1) _ (.slice ca cn cc) 4 w1 hp.1 hp.2.1 (by omega) (by omega))
  have HP := Lib.hid hp
  clear hp H1 hnet hu hd8 hd12 hln
  go_wp2_with fail
  go_at_call 42
  refine H2.out.mono ?_
  rintro e w2 ⟨⟨r0, rfl, r1, r2⟩, hp⟩
  have r2 := r2 (by omega)
  have H3 := Lib.hid (pick_any (w.heap.size + 1) _ (.slice ca cn cc) 9 w2 hp.1 hp.2.1 (by omega) (by omega))
  have HN := Lib.hid (HN.out.cur hp (by omega))
  have HP := Lib.hid (curPost_trans HP.out hp)
  clear hp H2
  go_wp2_with fail
  go_at_call 42
  refine H3.out.mono ?_
  rintro e w3 ⟨⟨q0, rfl, q1, q2⟩, hp⟩
  have q2 := q2 (by omega)
  have HN := Lib.hid (HN.out.cur hp (by omega))
  have HP := Lib.hid (curPost_trans HP.out hp)
  obtain ⟨w4, hw4⟩ : ∃ w4 : World, w4 = w3.alloc (.cells #[.string ⟨#[98, 97, 99, 107]⟩, .string ⟨#[122, 57]⟩, .string ⟨#[108, 49]⟩, .string ⟨#[114, 49]⟩, .string ⟨#[]⟩] 9) := ⟨_, rfl⟩
  have hp := HP.out
  have hlt := curAt_lt hp.1
  have hlo := listOff_built w3 (w.heap.size + 1) (nmR.map .string) 9 hlt (by simp [nmR])
  have hp4 := curPost_alloc hp (.cells #[.string ⟨#[98, 97, 99, 107]⟩, .string ⟨#[122, 57]⟩, .string ⟨#[108, 49]⟩, .string ⟨#[114, 49]⟩, .string ⟨#[]⟩] 9)
  have hlo' : ListOff w4 (w.heap.size + 1) (.slice (some ⟨w3.heap.size, 0, none⟩) 5 5) (nmR.map .string) := by rw [hw4]; exact hlo
  rw [← hw4] at hp4
  have HN := Lib.hid (HN.out.later (show Below w3.heap.size w3 w4 by rw [hw4]; exact (Below.refl _ _).alloc (Nat.le_refl _) _))
  have H4 := Lib.hid (of_any (w.heap.size + 1) _ (.slice ca cn cc) (.slice (some ⟨w3.heap.size, 0, none⟩) 5 5) nmR w4 hp4.1 hp4.2.1 (by omega) hlo' (by simp [nmR]) (by simp [nmR]))
  have HP := Lib.hid hp4
  have HW4 := Lib.hid hw4
  have hd1 : IntKind.i64.wrap (q0.tdiv 8) = q0 / 8 := by rw [Int.tdiv_eq_ediv_of_nonneg q1]; exact IntWalk.i64_in _ (by omega)
  clear hp H3 hlt hlo hlo' hp4 hw4
  go_wp2_with fail
  rw [← HW4.out]
  go_at_call 43
  refine H4.out.mono ?_
  rintro e w5 ⟨⟨nm, hnm, rfl⟩, hp⟩
  have hnm := nmR_size nm hnm
  have HN := Lib.hid (HN.out.cur hp (by omega))
  have hp := curPost_trans HP.out hp
  have z0 : w5.cell? ⟨w.heap.size, 0, none⟩ = some (.slice none 0 0) := hp.2.2.cell HZ.out.1 (by simp)
  have z1 : w5.cell? ⟨w.heap.size, 1, none⟩ = some (.slice none 0 0) := hp.2.2.cell HZ.out.2.1 (by simp)
  have zf : ∀ o, w5.frozen? ⟨w.heap.size, o, none⟩ = false := fun o => by
    rw [World.frozen?_of_block (a := ⟨w.heap.size, o, none⟩) (hp.2.2.block w.heap.size (by omega) (by simp))]
    exact HZ.out.2.2 o
  have HBe := Lib.hid (below_curR (Nat.le_succ w.heap.size) HB.out hp)
  have hzz : w.heap.size + 2 ≤ w5.heap.size := by have := hp.2.2.size; omega
  clear hp HP H4 HB HZ HW4
  go_wp2_with fail
  refine bodyPost_ret (v := .tuple #[.agg #[.slice a d.stops.length c, .slice oa d.lines.length oc], .int .i64 (r0 - q0 / 8), .string nm]) ?_ ?_ ?_
  · simp only [results, Try.results7]; go_simp
  · rfl
  · have hN1 : AnyN (w.heap.size + 1) (.agg #[.slice a d.stops.length c, .slice oa d.lines.length oc]) d w5 := ⟨HN.out.1, HN.out.2.base (by omega) (Nat.le_refl _)⟩
    exact ⟨⟨d, a, c, oa, oc, _, nm, rfl, hN1.set w.heap.size (by omega) _ _, ⟨by omega, by omega⟩, hnm⟩, (HBe.out.setCell (p := ⟨w.heap.size, 0, none⟩) (Nat.le_refl _) _).setCell (p := ⟨w.heap.size, 1, none⟩) (Nat.le_refl _) _⟩
end Go.Proofs.Ytemejcbilhcebaa
