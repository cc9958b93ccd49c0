import Derived.Test.YtfgkfdkdjegaiaaMk27
import Derived.Test.YtfgkfdkdjegaiaaMk02
import Derived.Test.YtfgkfdkdjegaiaaMk03
namespace Go.Proofs.Ytfgkfdkdjegaiaa
open Go.RowKit
set_option linter.unusedVariables false
set_option linter.unusedSimpArgs false

def evnL : List Int := [1, 5, 10, 60, 7, 0, 61]
theorem evn_arr : (evnL.map (Value.int .i64)).toArray = #[.int .i64 1, .int .i64 5, .int .i64 10, .int .i64 60, .int .i64 7, .int .i64 0, .int .i64 61] := rfl
theorem evn_len : (evnL.map (Value.int .i64)).length = 7 := rfl
theorem evn_in {k : Nat} : ∀ x ∈ evnL.take k, 0 ≤ x ∧ x ≤ 61 := fun x hx => by
  have := List.mem_of_mem_take hx
  simp [evnL] at this
  omega

set_option maxRecDepth 100000 in
set_option maxHeartbeats 8000000 in
theorem drawEven_any (v : Value) (w : World) (h : CodeAt w v) :
    Calls Try.prog 37 #[v] w fun e w' => (∃ x y : Int, e = .returned (.tuple #[.int .i64 x, .int .i64 y])) ∧ Below w.heap.size w w' := by
  obtain ⟨l0, ca, cc, rfl, hcc⟩ := h
  obtain ⟨cn, hcn⟩ : ∃ cn, (l0.map byteV).length = cn := ⟨_, rfl⟩
  obtain ⟨hc, ho, hb⟩ := cur_new w _ ⟨l0, ca, cc, rfl, hcc⟩
  rw [hcn] at hc ho hb
  rw [hcn]
  have hbuild := build_curP ca cn cc
  obtain ⟨wa, hwa⟩ : ∃ wa : World, wa = w.alloc (.cells #[.slice ca cn cc, .int .i64 0, .int .u64 0] 84) := ⟨_, rfl⟩
  rw [← hwa] at hc ho hb
  have hza : wa.heap.size = w.heap.size + 1 := by rw [hwa]; simp
  have hlt0 : w.heap.size < wa.heap.size := by omega
  have HPc := Lib.hid (curPost_alloc (show CurPost wa w.heap.size 0 (.slice ca cn cc) wa from ⟨hc, ho, grown_refl _ _⟩) (.cells #[.int .i64 1, .int .i64 5, .int .i64 10, .int .i64 60, .int .i64 7, .int .i64 0, .int .i64 61] 3))
  have HLst := Lib.hid (fun k (hk : k ≤ 7) => listOff_pre wa w.heap.size (evnL.map (.int .i64)) 3 hlt0 (by decide) k (by simp [evnL]; omega))
  simp only [evn_arr, evn_len, hza] at HLst
  have H1 := Lib.hid (pick_any w.heap.size 0 (.slice ca cn cc) 24 _ HPc.out.1 HPc.out.2.1 (by omega) (by omega))
  have HB := Lib.hid hb
  have HWA := Lib.hid hwa
  clear hc ho hb hcc hwa hcn
  go_enter Try.func37, Try.ntmps37
  go_wp2_with fail
  rw [← HWA.out]
  go_at_call 70
  refine H1.out.mono ?_
  rintro e v1 ⟨⟨r4, rfl, h40, h41⟩, hp⟩
  have h42 := h41 (by omega)
  obtain ⟨k4, rfl⟩ := Int.eq_ofNat_of_zero_le h40
  have HLst := Lib.hid (fun k (hk : k ≤ 7) => listOff_grown (HLst.out k hk) hp.2.2)
  have HPc := Lib.hid (curPost_trans HPc.out hp)
  clear hp h41 h40 H1
  have hq4 : IntKind.i64.wrap ((k4 : Int) / 11) = (k4 : Int) / 11 := IntWalk.i64_in _ (by omega)
  have ht4 : (k4 : Int).tdiv 11 = (k4 : Int) / 11 := rfl
  obtain ⟨mm, hmm⟩ : ∃ mm : Nat, 5 + k4 / 11 = mm := ⟨_, rfl⟩
  have hs7 : (5 : Int) + (k4 : Int) / 11 = (mm : Int) := by omega
  have hm5 : 5 ≤ mm := by omega
  have hm7 : mm ≤ 7 := by omega
  have hmi : (mm : Int) ≤ 7 := by omega
  have hmj : (0 : Int) ≤ (mm : Int) := by omega
  have hs4 : IntKind.i64.wrap (mm : Int) = (mm : Int) := IntWalk.i64_in _ (by omega)
  clear hmm
  go_wp2_with fail
  go_at_call 76
  refine (among_any w.heap.size (0 + 2) (.slice ca cn cc) _ (evnL.take mm) _ HPc.out.1 HPc.out.2.1 (by omega) (by rw [List.map_take]; exact HLst.out mm (by omega)) (by simp [evnL]; omega) (by simp [evnL]; omega) (fun z hz => by have := evn_in z hz; omega)).mono ?_
  rintro e v5 ⟨⟨z, hzm, rfl⟩, hp⟩
  obtain ⟨hz0, hz1⟩ := evn_in z hzm
  have HPc := Lib.hid (curPost_trans HPc.out hp)
  clear hp hzm HLst
  have hlt8 : w.heap.size < v5.heap.size := by have := HPc.out.2.2.size; omega
  have hl := listOff_built v5 w.heap.size [.int .i64 1, .int .i64 2, .int .i64 3, .int .i64 4, .int .i64 7, .int .i64 z, .int .i64 (z + 1), .int .i64 0] 3 hlt8 (by simp)
  have HPl := Lib.hid (curPost_alloc HPc.out (.cells #[.int .i64 1, .int .i64 2, .int .i64 3, .int .i64 4, .int .i64 7, .int .i64 z, .int .i64 (z + 1), .int .i64 0] 3))
  have HA := Lib.hid (among_any w.heap.size (0 + 2 + 2) (.slice ca cn cc) _ [1, 2, 3, 4, 7, z, z + 1, 0] _ HPl.out.1 HPl.out.2.1 (by omega) hl (by simp) (by simp) (fun x hx => by simp at hx; omega))
  have hwz : IntKind.i64.wrap (z + 1) = z + 1 := IntWalk.i64_in _ (by omega)
  clear hl HPc
  go_wp2_with fail
  go_at_call 76
  refine HA.out.mono ?_
  rintro e v6 ⟨⟨y, hy, rfl⟩, hp⟩
  have HBf := Lib.hid (below_of_curPost HB.out (curPost_trans HPl.out hp))
  clear hp HPl HA hy
  go_wp2_with fail
  refine bodyPost_ret (v := .tuple #[.int .i64 y, .int .i64 z]) ?_ ?_ ?_
  · simp only [results, Try.results37]
    go_simp
  · rfl
  · exact ⟨⟨y, z, rfl⟩, HBf.out⟩
end Go.Proofs.Ytfgkfdkdjegaiaa
