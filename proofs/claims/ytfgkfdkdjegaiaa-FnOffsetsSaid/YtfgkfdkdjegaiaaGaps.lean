import Derived.Test.YtfgkfdkdjegaiaaMk27
import Derived.Test.YtfgkfdkdjegaiaaMk11
import Derived.RegionTactic
import Derived.BigRegion
namespace Go.Proofs.Ytfgkfdkdjegaiaa
open Go.RowKit
set_option linter.unusedVariables false
set_option linter.unusedSimpArgs false

set_option maxRecDepth 100000 in
set_option maxHeartbeats 8000000 in
theorem gapsOf_any (v : Value) (L : List Int) (p : Int) (w : World) (hr : RowAt w v (ints L)) (hl : L.length ≤ 1000) (hb : ∀ x ∈ L, 0 ≤ x ∧ x ≤ 60) (hp : 0 < L.length → 0 ≤ p ∧ p ≤ 60) :
    Calls Try.prog 56 #[v, .int .i64 p] w fun e w' => (∃ v', e = .returned v' ∧ w'.ownsRow w.heap.size 3 1 v' (gaps L p).length (ints (gaps L p))) ∧ Below w.heap.size w w' := by
  obtain ⟨a, c, rfl, hc, hm, HC⟩ := ints_open hr
  obtain ⟨i0, hi0, hz0, hz1, hz2⟩ := info_parts infoInt
  have HB0 := Lib.hid hb
  have HP := Lib.hid hp
  have HRow := Lib.hid (row_new w w.heap.size (Nat.le_refl _))
  clear hr hb hp
  go_enter Try.func56, Try.ntmps56
  go_wp2_with fail
  go_loopw [5, 11] (fun o q wr => ∃ k : Nat, k ≤ L.length ∧ q = .int .i64 k ∧ Hid (o.ownBlock ≠ none ∧ wr.ownsRow w.heap.size 3 1 o k (ints (gapsK L p k))) ∧ Hid (Below w.heap.size w wr))
    (fun _ q _ => L.length - (RowKit.intOf q).toNat)
  case atStart => exact ⟨0, Nat.zero_le _, rfl, ⟨by simp [Value.ownBlock], HRow.out⟩, (Below.refl _ _).alloc (Nat.le_refl _) _⟩
  case round =>
    obtain ⟨k, hk, rfl, HOwn, HB⟩ := hrel
    obtain ⟨og, oc, rfl, hoc, hom, hogl, hogb, -⟩ := own_open HOwn.out.2 HOwn.out.1
    have hz := HB.out.size
    by_cases hlt : k < L.length
    · obtain ⟨g, go, rfl, hgb, yk⟩ := HC.out k hlt
      obtain ⟨_, _, he, -, y0⟩ := HC.out 0 (by omega)
      simp at he
      obtain ⟨rfl, rfl⟩ := he
      have yk := bkeep HB.out yk
      have y0 := bkeep HB.out y0
      rw [Nat.add_zero] at y0
      have hk1 : (k : Int) < (L.length : Int) := by omega
      have h0l : (0 : Int) < (L.length : Int) := by omega
      have hbk := HB0.out _ (List.getElem_mem hlt)
      have hb0 := HB0.out _ (List.getElem_mem (show 0 < L.length by omega))
      have hpp := HP.out (by omega)
      have HSucc := Lib.hid (gapsK_succ L p k)
      have hw0 : IntKind.i64.wrap ((k : Int) + 1) = (k : Int) + 1 := IntWalk.i64_in _ (by omega)
      by_cases hmid : k + 1 < L.length
      · obtain ⟨_, _, he, -, y1⟩ := HC.out (k + 1) hmid
        simp at he
        obtain ⟨rfl, rfl⟩ := he
        have y1 := bkeep HB.out y1
        have y1' := y1
        rw [← Nat.add_assoc] at y1'
        have hb1 := HB0.out _ (List.getElem_mem hmid)
        rw [gapAt_mid hmid] at HSucc
        have hmi : (k : Int) + 1 < (L.length : Int) := by omega
        have hm2 : (0 : Int) ≤ (k : Int) + 1 := by omega
        generalize L[k + 1]'hmid = x1 at *
        generalize L[k]'hlt = xk at *
        generalize L[0]'(show 0 < L.length by omega) = x0 at *
        have hw1 : IntKind.i64.wrap (x0 + p) = x0 + p := IntWalk.i64_in _ (by omega)
        have hw2 : IntKind.i64.wrap (x1 - xk) = x1 - xk := IntWalk.i64_in _ (by omega)
        go_wp2_with (at_builtin; refine wpList_append_own _ rfl _ _ 31 rfl w.heap.size 3 i0 (.int .i64 0) 1 8 Try.underlying31 hi0 hz0 hz1 hz2 rfl (by decide) _ _ _ rfl (HOwn.out.2.alloc _) ⟨wr.heap.size, 0, none⟩ 1 1 [.int .i64 (x1 - xk)] rfl rfl ?c1 ?c2 ?c3 ?c4 ?c5 ?_)
        try (case c1 => exact one_newN _ _ _ (by simp))
        case c2 => first | rfl | (intro u hu; simp at hu; subst hu; rfl)
        case c3 => first | omega | (unfold maxLen; omega)
        case c4 => omega
        case c5 => first | omega | (simp; omega)
        intro v' w3 hown' hgrow _
        have HB3 : Hid (Below w.heap.size w w3) := (HB.out.alloc hz _).grown hgrow (by simp; omega) (fun g hg => by have := (HOwn.out.2.lt g hg).1; omega)
        have HR : Hid (v'.ownBlock ≠ none ∧ w3.ownsRow w.heap.size 3 1 v' (k + 1) (ints (gapsK L p (k + 1)))) := by
          refine ⟨own_someE hown' (by omega), ?_⟩
          rw [HSucc.out]; simpa [ints] using hown'
        clear hown' hgrow
        go_wp2_with fail
        go_roundw
        case rel => exact ⟨k + 1, by omega, by go_num, HR, HB3⟩
        case measure => simp [RowKit.intOf]; omega
      · rw [gapAt_end (by omega)] at HSucc
        have hmi : ¬ (k : Int) + 1 < (L.length : Int) := by omega
        generalize L[k]'hlt = xk at *
        generalize L[0]'(show 0 < L.length by omega) = x0 at *
        have hw1 : IntKind.i64.wrap (x0 + p) = x0 + p := IntWalk.i64_in _ (by omega)
        have hw2 : IntKind.i64.wrap (x0 + p - xk) = x0 + p - xk := IntWalk.i64_in _ (by omega)
        go_wp2_with (at_builtin; refine wpList_append_own _ rfl _ _ 31 rfl w.heap.size 3 i0 (.int .i64 0) 1 8 Try.underlying31 hi0 hz0 hz1 hz2 rfl (by decide) _ _ _ rfl (HOwn.out.2.alloc _) ⟨wr.heap.size, 0, none⟩ 1 1 [.int .i64 (x0 + p - xk)] rfl rfl ?c1 ?c2 ?c3 ?c4 ?c5 ?_)
        try (case c1 => exact one_newN _ _ _ (by simp))
        case c2 => first | rfl | (intro u hu; simp at hu; subst hu; rfl)
        case c3 => first | omega | (unfold maxLen; omega)
        case c4 => omega
        case c5 => first | omega | (simp; omega)
        intro v' w3 hown' hgrow _
        have HB3 : Hid (Below w.heap.size w w3) := (HB.out.alloc hz _).grown hgrow (by simp; omega) (fun g hg => by have := (HOwn.out.2.lt g hg).1; omega)
        have HR : Hid (v'.ownBlock ≠ none ∧ w3.ownsRow w.heap.size 3 1 v' (k + 1) (ints (gapsK L p (k + 1)))) := by
          refine ⟨own_someE hown' (by omega), ?_⟩
          rw [HSucc.out]; simpa [ints] using hown'
        clear hown' hgrow
        go_wp2_with fail
        go_roundw
        case rel => exact ⟨k + 1, by omega, by go_num, HR, HB3⟩
        case measure => simp [RowKit.intOf]; omega
    · obtain rfl : k = L.length := by omega
      have HX : Hid (wr.ownsRow w.heap.size 3 1 (.slice (some ⟨og, 0, none⟩) L.length oc) (gaps L p).length (ints (gaps L p))) := by
        show World.ownsRow _ _ _ _ _ _ _
        rw [gaps_len]; exact HOwn.out.2
      clear HOwn
      go_wp2_with fail
      go_ret
      exact ⟨⟨_, rfl, HX.out⟩, HB.out⟩

set_option maxRecDepth 100000 in
set_option maxHeartbeats 8000000 in
theorem l10Gaps_any (v : Value) (L : List Int) (p : Int) (w : World) (hr : RowAt w v (ints L)) (hl : L.length ≤ 1000) (hb : ∀ x ∈ L, 0 ≤ x ∧ x ≤ 60) (hp : 0 < L.length → 0 ≤ p ∧ p ≤ 60) :
    Calls Try.prog 58 #[v, .int .i64 p] w fun e w' => (∃ v', e = .returned v' ∧ w'.ownsRow w.heap.size 3 1 v' (gaps L p).length (ints (gaps L p))) ∧ Below w.heap.size w w' := by
  obtain ⟨a, c, rfl, hc, hm, HC⟩ := ints_open hr
  obtain ⟨i0, hi0, hz0, hz1, hz2⟩ := info_parts infoInt
  have HB0 := Lib.hid hb
  have HP := Lib.hid hp
  have HRow := Lib.hid (row_new w w.heap.size (Nat.le_refl _))
  clear hr hb hp
  go_enter Try.func58, Try.ntmps58
  go_wp2_with fail
  go_loopw [5, 6] (fun o q wr => ∃ k : Nat, k ≤ L.length ∧ q = .int .i64 k ∧ Hid (o.ownBlock ≠ none ∧ wr.ownsRow w.heap.size 3 1 o k (ints (gapsK L p k))) ∧ Hid (Below w.heap.size w wr))
    (fun _ q _ => L.length - (RowKit.intOf q).toNat)
  case atStart => exact ⟨0, Nat.zero_le _, rfl, ⟨by simp [Value.ownBlock], HRow.out⟩, (Below.refl _ _).alloc (Nat.le_refl _) _⟩
  case round =>
    obtain ⟨k, hk, rfl, HOwn, HB⟩ := hrel
    obtain ⟨og, oc, rfl, hoc, hom, hogl, hogb, -⟩ := own_open HOwn.out.2 HOwn.out.1
    have hz := HB.out.size
    by_cases hlt : k < L.length
    · obtain ⟨g, go, rfl, hgb, yk⟩ := HC.out k hlt
      obtain ⟨_, _, he, -, y0⟩ := HC.out 0 (by omega)
      simp at he
      obtain ⟨rfl, rfl⟩ := he
      have yk := bkeep HB.out yk
      have y0 := bkeep HB.out y0
      rw [Nat.add_zero] at y0
      have hk1 : (k : Int) < (L.length : Int) := by omega
      have h0l : (0 : Int) < (L.length : Int) := by omega
      have hbk := HB0.out _ (List.getElem_mem hlt)
      have hb0 := HB0.out _ (List.getElem_mem (show 0 < L.length by omega))
      have hpp := HP.out (by omega)
      have HSucc := Lib.hid (gapsK_succ L p k)
      have hw0 : IntKind.i64.wrap ((k : Int) + 1) = (k : Int) + 1 := IntWalk.i64_in _ (by omega)
      by_cases hmid : k + 1 < L.length
      · obtain ⟨_, _, he, -, y1⟩ := HC.out (k + 1) hmid
        simp at he
        obtain ⟨rfl, rfl⟩ := he
        have y1 := bkeep HB.out y1
        have y1' := y1
        rw [← Nat.add_assoc] at y1'
        have hb1 := HB0.out _ (List.getElem_mem hmid)
        rw [gapAt_mid hmid] at HSucc
        have hmi : (k : Int) + 1 < (L.length : Int) := by omega
        have hm2 : (0 : Int) ≤ (k : Int) + 1 := by omega
        generalize L[k + 1]'hmid = x1 at *
        generalize L[k]'hlt = xk at *
        generalize L[0]'(show 0 < L.length by omega) = x0 at *
        have hw1 : IntKind.i64.wrap (x0 + p) = x0 + p := IntWalk.i64_in _ (by omega)
        have hw2 : IntKind.i64.wrap (x1 - xk) = x1 - xk := IntWalk.i64_in _ (by omega)
        go_wp2_with (at_builtin; refine wpList_append_own _ rfl _ _ 31 rfl w.heap.size 3 i0 (.int .i64 0) 1 8 Try.underlying31 hi0 hz0 hz1 hz2 rfl (by decide) _ _ _ rfl (HOwn.out.2.alloc _) ⟨wr.heap.size, 0, none⟩ 1 1 [.int .i64 (x1 - xk)] rfl rfl ?c1 ?c2 ?c3 ?c4 ?c5 ?_)
        try (case c1 => exact one_newN _ _ _ (by simp))
        case c2 => first | rfl | (intro u hu; simp at hu; subst hu; rfl)
        case c3 => first | omega | (unfold maxLen; omega)
        case c4 => omega
        case c5 => first | omega | (simp; omega)
        intro v' w3 hown' hgrow _
        have HB3 : Hid (Below w.heap.size w w3) := (HB.out.alloc hz _).grown hgrow (by simp; omega) (fun g hg => by have := (HOwn.out.2.lt g hg).1; omega)
        have HR : Hid (v'.ownBlock ≠ none ∧ w3.ownsRow w.heap.size 3 1 v' (k + 1) (ints (gapsK L p (k + 1)))) := by
          refine ⟨own_someE hown' (by omega), ?_⟩
          rw [HSucc.out]; simpa [ints] using hown'
        clear hown' hgrow
        go_wp2_with fail
        go_roundw
        case rel => exact ⟨k + 1, by omega, by go_num, HR, HB3⟩
        case measure => simp [RowKit.intOf]; omega
      · rw [gapAt_end (by omega)] at HSucc
        have hmi : ¬ (k : Int) + 1 < (L.length : Int) := by omega
        generalize L[k]'hlt = xk at *
        generalize L[0]'(show 0 < L.length by omega) = x0 at *
        have hw1 : IntKind.i64.wrap (x0 + p) = x0 + p := IntWalk.i64_in _ (by omega)
        have hw2 : IntKind.i64.wrap (x0 + p - xk) = x0 + p - xk := IntWalk.i64_in _ (by omega)
        go_wp2_with (at_builtin; refine wpList_append_own _ rfl _ _ 31 rfl w.heap.size 3 i0 (.int .i64 0) 1 8 Try.underlying31 hi0 hz0 hz1 hz2 rfl (by decide) _ _ _ rfl (HOwn.out.2.alloc _) ⟨wr.heap.size, 0, none⟩ 1 1 [.int .i64 (x0 + p - xk)] rfl rfl ?c1 ?c2 ?c3 ?c4 ?c5 ?_)
        try (case c1 => exact one_newN _ _ _ (by simp))
        case c2 => first | rfl | (intro u hu; simp at hu; subst hu; rfl)
        case c3 => first | omega | (unfold maxLen; omega)
        case c4 => omega
        case c5 => first | omega | (simp; omega)
        intro v' w3 hown' hgrow _
        have HB3 : Hid (Below w.heap.size w w3) := (HB.out.alloc hz _).grown hgrow (by simp; omega) (fun g hg => by have := (HOwn.out.2.lt g hg).1; omega)
        have HR : Hid (v'.ownBlock ≠ none ∧ w3.ownsRow w.heap.size 3 1 v' (k + 1) (ints (gapsK L p (k + 1)))) := by
          refine ⟨own_someE hown' (by omega), ?_⟩
          rw [HSucc.out]; simpa [ints] using hown'
        clear hown' hgrow
        go_wp2_with fail
        go_roundw
        case rel => exact ⟨k + 1, by omega, by go_num, HR, HB3⟩
        case measure => simp [RowKit.intOf]; omega
    · obtain rfl : k = L.length := by omega
      have HX : Hid (wr.ownsRow w.heap.size 3 1 (.slice (some ⟨og, 0, none⟩) L.length oc) (gaps L p).length (ints (gaps L p))) := by
        show World.ownsRow _ _ _ _ _ _ _
        rw [gaps_len]; exact HOwn.out.2
      clear HOwn
      go_wp2_with fail
      go_ret
      exact ⟨⟨_, rfl, HX.out⟩, HB.out⟩
end Go.Proofs.Ytfgkfdkdjegaiaa
