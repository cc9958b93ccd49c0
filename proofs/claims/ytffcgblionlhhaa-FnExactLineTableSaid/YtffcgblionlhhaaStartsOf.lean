/-
  CONTRACT of impl.startsOf: the starts of a line's trips in ascending order, in new memory.
-/
import Derived.Test.YtffcgblionlhhaaL5Starts
import Derived.Test.YtffcgblionlhhaaShelf
import Derived.Lib.OwnBridge
namespace Go.Proofs.Ytffcgblionlhhaa
open Go.RowKit
set_option linter.unusedVariables false

theorem own_grow {w : World} {B : Nat} {e : TypeId} {sz : Nat} {v : Value} {n : Nat} {xs : List Value} (h : w.ownsRow B e sz v n xs) (os : Array Obj) : (Sort.grow w os).ownsRow B e sz v n xs :=
  own_block h (fun g hg => by
    have := (h.lt g hg).2
    show (w.heap ++ os)[g]? = _
    rw [Array.getElem?_append_left this])
theorem below_grow {B : Nat} {w0 w : World} (h : Below B w0 w) (hB : B ≤ w.heap.size) (os : Array Obj) : Below B w0 (Sort.grow w os) :=
  ⟨h.os, h.tape, h.output, by have := h.size; simp [Sort.grow]; omega, fun k hk => by
    rw [← h.block k hk]
    show (w.heap ++ os)[k]? = _
    rw [Array.getElem?_append_left (by omega)]⟩
/-- the sort of a row of numbers of the call's own -/
theorem sortInts_own (v : Value) (xs : List Int) (B : Nat) (w : World) (h : w.ownsRow B 3 1 v xs.length (ints xs)) (hv : v.ownBlock ≠ none) (hn : xs.length ≤ 1048576) :
    Calls Try.prog 211 #[v] w fun e w' => e = .returned (.tuple #[]) ∧ w'.ownsRow B 3 1 v xs.length (ints (xs.mergeSort (fun x y => decide (x ≤ y)))) ∧ ∀ w0, Below B w0 w → Below B w0 w' := by
  obtain ⟨g, cap, rfl, hg, hgl, hc, hm, hzl, hH⟩ := Lib.holds_of_ownsRow (enc := Value.int .i64) (zs := xs) h (fun e => hv (by rw [e]; rfl))
  refine (Try.slices_Sort_int g 0 cap xs w hH hgl (by omega)).mono ?_
  rintro e w' ⟨rfl, n, os, rfl⟩
  have hl : (xs.mergeSort (fun x y => decide (x ≤ y))).length = xs.length := List.length_mergeSort _
  have h1 := Lib.ownsRow_putRow (q := n) (ys := xs.mergeSort (fun x y => decide (x ≤ y))) (k := xs.length) h hl (Nat.le_refl _)
  rw [List.take_of_length_le (by omega)] at h1
  refine ⟨rfl, own_grow h1 os, fun w0 hb => below_grow (Lib.below_putRow hb hg) (by simp [Sort.putRow, Sort.mapBlock, Sort.ahead]; omega) os⟩

set_option maxRecDepth 100000 in
set_option maxHeartbeats 4000000 in
theorem startsOf_any (v : Value) (t : TTD) (line : Int) (w : World) (hr : TTAt w v t) (hs : TTSmall t) :
    Calls Try.prog 189 #[v, .int .i64 line] w fun e w' => (∃ v', e = .returned v' ∧ w'.ownsRow w.heap.size 3 1 v' (stS t line t.trips.length).length (ints (stS t line t.trips.length))) ∧ Below w.heap.size w w' := by
  have hts := hs.2
  unfold TripsSmall at hts
  obtain ⟨a, c, a', c', b, d, rfl, -, ht⟩ := tt_open hr
  have HT := Lib.hid ht
  clear hr hs ht
  obtain ⟨i0, hi0, hz0, hz1, hz2⟩ := info_parts infoInt
  go_enter Try.func189, Try.ntmps189
  go_wp2_with fail
  go_loopw [5, 12] (fun o q wr => ∃ k : Nat, k ≤ t.trips.length ∧ q = .int .i64 k ∧ Hid (o.ownBlock ≠ none ∧ wr.ownsRow (w.heap.size + 1) 3 1 o (stL t line k).length (ints (stL t line k))) ∧ Hid (Below w.heap.size w wr ∧ w.heap.size < wr.heap.size))
    (fun _ q _ => t.trips.length - (RowKit.intOf q).toNat)
  case atStart =>
    refine ⟨0, Nat.zero_le _, rfl, ⟨by simp [Value.ownBlock], ?_⟩, ⟨((Below.refl _ _).alloc (Nat.le_refl _) _).alloc (by simp) _, by simp <;> omega⟩⟩
    have h := row_new (w.alloc (.cells #[.slice a t.net.stops.length c, .slice a' t.net.lines.length c', .slice b t.trips.length d] 89 (0, 0))) (w.heap.size + 1) (by simp)
    simp only [World.size_alloc] at h
    exact h
  case round =>
    obtain ⟨k, hk, rfl, HOwn, HB⟩ := hrel
    obtain ⟨og, oc, rfl, hoc, hom, hogl, hogb, -⟩ := own_open HOwn.out.2 HOwn.out.1
    have hz := HB.out.2
    by_cases hlt : k < t.trips.length
    · obtain ⟨g, go, rfl, hgb, y0, y1, y2⟩ := trip_at (HT.out.below rfl HB.out.1) k hlt
      have hk1 : (k : Int) < (t.trips.length : Int) := by omega
      have HYes := Lib.hid (stL_yes (line := line) hlt)
      have HNo := Lib.hid (stL_no (line := line) hlt)
      have hll := stL_len t line k
      generalize t.trips[k] = x at *
      obtain ⟨xi, xl, xs⟩ := x
      simp only at *
      by_cases hln : xl = line
      · have HSucc := Lib.hid (HYes.out hln)
        subst hln
        have hself : (xl == xl) = true := by simp
        have hle2 : (stL t xl k).length ≤ 1048576 := by omega
        clear HYes HNo
        go_wp2_with (at_builtin; refine wpList_append_own _ rfl _ _ 43 rfl (w.heap.size + 1) 3 i0 (.int .i64 0) 1 8 Try.underlying43 hi0 hz0 hz1 hz2 rfl (by decide) _ _ _ rfl ((HOwn.out.2.alloc _).alloc _) ⟨wr.heap.size + 1, 0, none⟩ 1 1 [.int .i64 xs] rfl rfl ?c1 ?c2 ?c3 ?c4 ?c5 ?_)
        case c1 => exact one_newN _ _ _ (by simp)
        case c2 => intro u hu; simp at hu; subst hu; rfl
        case c3 => unfold maxLen; omega
        case c4 => omega
        case c5 => simp; omega
        intro v' w3 hown' hgrow _
        have HB3 : Hid (Below w.heap.size w w3 ∧ w.heap.size < w3.heap.size) := ⟨((HB.out.1.alloc (by omega) _).alloc (by simp; omega) _).grown hgrow (by simp; omega) (fun g hg => by have := (HOwn.out.2.lt g hg).1; omega), by have := hgrow.size; simp at this; omega⟩
        have hown2 := hown'
        have HR : Hid (v'.ownBlock ≠ none ∧ w3.ownsRow (w.heap.size + 1) 3 1 v' (stL t xl (k + 1)).length (ints (stL t xl (k + 1)))) := by
          refine ⟨own_someE hown' (by omega), ?_⟩
          rw [HSucc.out]; simpa [ints] using hown'
        clear hown' hown2 hgrow
        go_wp2_with fail
        go_roundw
        case rel => exact ⟨k + 1, by omega, by go_num, HR, HB3⟩
        case measure => simp [RowKit.intOf]; omega
      · have HSucc := Lib.hid (HNo.out hln)
        have hne : (xl == line) = false := by simp [hln]
        have HR : Hid (∀ o, (Value.slice (some ⟨og, 0, none⟩) (stL t line k).length oc).ownBlock ≠ none ∧ (wr.alloc o).ownsRow (w.heap.size + 1) 3 1 (.slice (some ⟨og, 0, none⟩) (stL t line k).length oc) (stL t line (k + 1)).length (ints (stL t line (k + 1)))) := fun o => by rw [HSucc.out]; exact ⟨HOwn.out.1, HOwn.out.2.alloc _⟩
        have HB3 : Hid (∀ o, Below w.heap.size w (wr.alloc o) ∧ w.heap.size < (wr.alloc o).heap.size) := fun o => ⟨HB.out.1.alloc (by omega) _, by simp; omega⟩
        clear HYes HNo HOwn
        go_wp2_with fail
        go_roundw
        case rel => exact ⟨k + 1, by omega, by go_num, HR.out _, HB3.out _⟩
        case measure => simp [RowKit.intOf]; omega
    · obtain rfl : k = t.trips.length := by omega
      have hlt1 : ¬ (t.trips.length : Int) < (t.trips.length : Int) := by omega
      have hll := stL_len t line t.trips.length
      have HSo := Lib.hid (sortInts_own _ _ (w.heap.size + 1) wr HOwn.out.2 HOwn.out.1 (by omega))
      rw [sort_eq] at HSo
      have HLn : Hid ((stL t line t.trips.length).length = (stS t line t.trips.length).length) := (stS_perm t line t.trips.length (Nat.le_refl _)).length_eq.symm
      go_wp2_with fail
      go_at_call 211
      refine HSo.out.mono ?_
      rintro e w2 ⟨rfl, hown, hb2⟩
      have HB2 : Hid (Below w.heap.size w w2) := HB.out.1.trans ((hb2 wr (Below.refl _ _)).mono (by omega))
      have hle : w.heap.size ≤ w.heap.size + 1 := by omega
      have HX := Lib.hid (own_base hown hle)
      clear hown hb2
      rw [HLn.out] at HX
      go_wp2_with fail
      go_ret
      exact ⟨⟨.slice (some ⟨og, 0, none⟩) (stL t line t.trips.length).length oc, rfl, by rw [HLn.out]; exact HX.out⟩, HB2.out⟩
end Go.Proofs.Ytffcgblionlhhaa
