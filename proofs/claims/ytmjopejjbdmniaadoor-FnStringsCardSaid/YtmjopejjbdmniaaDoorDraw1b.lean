/-
  CONTRACT of spec.DrawAppendChecksum: a text of at most 4000 bytes; nothing that was in memory turns.
-/
import Derived.Test.YtmjopejjbdmniaaDoorDraw1
import Derived.Laws.BytesArg
namespace Go.Proofs.YtmjopejjbdmniaaDoor
open Go.RowKit
open Go.Lib
set_option linter.unusedVariables false

theorem infoByte : (Tryd.prog.info? 5).map (fun i => (i.zero, i.size, i.bytes)) = some (some (.int .u8 0), 1, 1) := by kernel_rfl

theorem drawAppendChecksum_any (v : Value) (w : World) (h : CodeAt w v) :
    Calls Tryd.prog 15 #[v] w fun e w' => (∃ x : ByteArray, x.size ≤ 4000 ∧ e = .returned (.string x)) ∧ Below w.heap.size w w' := by
  obtain ⟨ca, cn, cc, rfl⟩ := codeAt_slice h
  obtain ⟨hc, ho, hb⟩ := cur_new w _ h
  have hbuild := build_cur ca cn cc
  obtain ⟨i0, hi, hz0, hz1, hz2⟩ := info_parts infoByte
  have H1 := Lib.hid (one_any w.heap.size 0 (.slice ca cn cc) 20 _ hc ho (by omega) (by omega))
  have HB := Lib.hid hb
  clear hc ho hb h
  go_enter Tryd.func15, Tryd.ntmps15
  go_wp2_with fail
  go_at_call 26
  refine H1.out.mono ?_
  rintro e w1 ⟨⟨r, rfl⟩, hp⟩
  have hlt := curAt_lt hp.1
  have HP := Lib.hid hp
  cases r
  · have H2 := Lib.hid (any1_any w.heap.size 2 (.slice ca cn cc) w1 hp.1 hp.2.1 (by omega))
    clear hp hlt
    go_wp2_with fail
    go_at_call 30
    refine H2.out.mono ?_
    rintro e w2 ⟨⟨x, hx, rfl⟩, hp2⟩
    have hfin : Below w.heap.size w w2 := below_of_curPost HB.out (curPost_trans HP.out hp2)
    clear hp2
    go_wp2_with fail
    go_ret
    exact ⟨⟨x, by omega, rfl⟩, hfin⟩
  · have H2 := Lib.hid (pick_any w.heap.size 2 (.slice ca cn cc) 10 w1 hp.1 hp.2.1 (by omega) (by omega))
    clear hp hlt
    go_wp2_with fail
    go_at_call 22
    refine H2.out.mono ?_
    rintro e w2 ⟨⟨q, rfl, q0, q1⟩, hp2⟩
    have hq := q1 (by omega)
    obtain ⟨k, rfl⟩ := Int.eq_ofNat_of_zero_le q0
    have hb2 : Below w.heap.size w w2 := below_of_curPost HB.out (curPost_trans HP.out hp2)
    have hB := hb2.size
    clear q1 hp2
    go_wp2_with (at_make; refine wpList_make_full _ rfl _ _ 22 rfl w.heap.size 5 i0 (.int .u8 0) 1 Tryd.underlying22 hi hz0 hz1 .i64 .i64 (3990 + (k : Int)) (3990 + (k : Int)) (3990 + k) rfl rfl (by omega) (by omega) ?c1 ?c2 ?c3 ?_)
    case c1 => rw [hz2]; omega
    case c2 => unfold maxLen; omega
    case c3 => exact hB
    intro w3 hown hgrow
    have hb3 : Below w.heap.size w w3 := hb2.grown hgrow hB (fun k hk => by cases hk)
    have hcells : ∀ i, i < 3990 + k → w3.cell? ⟨w2.heap.size, 0 + i, none⟩ = some (.int .u8 ((List.replicate (3990 + k) (0 : Int)).getD i 0)) := by
      intro i hi2
      rw [Nat.zero_add, hown.cellAt i (by omega), toList_madeCells_one]
      simp [hi2, List.getD]
    have hconv := run_convert_bytes_arg (P := Tryd.prog) w3 22 5 Tryd.underlying22 Tryd.underlying5 w2.heap.size 0 (3990 + k) (3990 + k) (List.replicate (3990 + k) (0 : Int)) (by simp) hcells 9 Tryd.underlying9
    have hsz : (strOfNums (List.replicate (3990 + k) (0 : Int))).size ≤ 4000 := by rw [strOfNums_size, List.length_replicate]; omega
    clear hcells hown hgrow hb2
    generalize strOfNums (List.replicate (3990 + k) (0 : Int)) = x at *
    go_wp2_with fail
    go_ret
    exact ⟨⟨x, hsz, rfl⟩, hb3⟩
end Go.Proofs.YtmjopejjbdmniaaDoor
