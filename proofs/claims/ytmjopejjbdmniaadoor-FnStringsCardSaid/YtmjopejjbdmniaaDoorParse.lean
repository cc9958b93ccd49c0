/-
  CONTRACTS: spec.l1Read, spec.ParseInt and impl.ParseInt return the number of a decimal text within the bounds, else 0 and false; what was in memory stays as it was.
-/
import Derived.Test.YtmjopejjbdmniaaDoorFmt
import Derived.Test.YtmjopejjbdmniaaDoorRead
import Derived.Test.YtmjopejjbdmniaaDoorSeal
import Derived.Lib.Strings
import Derived.Lib.AtoiErrMem
import Derived.Lib.AppendIntMem
import Derived.LaidSub
import Derived.LaidMore
import Derived.MakeChecks
import Derived.LaidLaws
namespace Go.Proofs.YtmjopejjbdmniaaDoor
open Go.RowKit Go.Sort
open Go.Lib hiding intOf
set_option linter.unusedVariables false

theorem take_all (t : ByteArray) (k : Nat) (h : ¬ k < t.size) : t.data.toList.take k = t.data.toList := List.take_of_length_le (by rw [length_list]; omega)
theorem allDig_take (t : ByteArray) (k : Nat) (h : k < t.size) (h1 : allDig (t.data.toList.take k)) (h2 : 48 ≤ (t[k]'h).toNat ∧ (t[k]'h).toNat ≤ 57) : allDig (t.data.toList.take (k + 1)) := by
  rw [take_snoc t k h]; exact (allDig_snoc _ _).2 ⟨h1, h2⟩
theorem not_allDig (t : ByteArray) (k : Nat) (h : k < t.size) (h2 : ¬ (48 ≤ (t[k]'h).toNat ∧ (t[k]'h).toNat ≤ 57)) : ¬ allDig t.data.toList := fun g => h2 (g _ (mem_at t k _ h rfl))
theorem digV_take (t : ByteArray) (k : Nat) (h : k < t.size) : digV (t.data.toList.take (k + 1)) = 10 * digV (t.data.toList.take k) + (((t[k]'h).toNat : Int) - 48) := by
  rw [take_snoc t k h]; exact digV_snoc _ _
theorem len_take6 (t : ByteArray) (k : Nat) (h : t.size ≤ 6) : (t.data.toList.take k).length ≤ 6 := by
  have := List.length_take_le k t.data.toList; have := List.length_take_le' k t.data.toList; rw [length_list] at *; omega

set_option maxHeartbeats 2000000 in
theorem l1Read_core (s t : ByteArray) (w : World) (hs : s.size ≤ maxLen) (ht : t.data.toList = restL s.data.toList) (htl : t.size ≤ s.size)
    (hcase : (∃ h1 : 1 < s.size, (((s[0]'(by omega)).toNat : Int) == 45) = true ∧ t.size < s.size ∧ (∀ W, (Instr.slice 9 (.string s) (some (.int .i64 1)) none none).run Tryd.prog W = .ok (.string t) W)) ∨
      (∃ h1 : 1 < s.size, (((s[0]'(by omega)).toNat : Int) == 45) = false ∧ s = t) ∨ (s.size ≤ 1 ∧ s = t)) :
    Calls Tryd.prog 29 #[.string s] w fun e w' => e = .returned (.tuple #[.int .i64 (readV s.data.toList).1, .bool (readV s.data.toList).2]) ∧ ∃ m, w' = w.drewN m := by
  unfold maxLen at hs
  have htlen := length_list t
  by_cases hfit : 1 ≤ t.size ∧ t.size ≤ 6
  · obtain ⟨f1, f2⟩ := hfit
    have hsign : signV s.data.toList = if t.size < s.size then -digV t.data.toList else digV t.data.toList := by
      unfold signV; rw [← ht, length_list, length_list]
    have HS := Lib.hid hsign
    have HT := Lib.hid ht
    clear hsign ht htlen
    have Hin := Lib.hid (l1In_yes (t.size : Int) 1 6 w (by omega) (by omega))
    rcases hcase with ⟨h1, hz, hts, hsl⟩ | ⟨h1, hz, rfl⟩ | ⟨h1, rfl⟩
    all_goals
      go_enter Tryd.func29, Tryd.ntmps29
      go_wp2_with (go_at_call 24; refine Hin.out.mono ?_; rintro e w' ⟨rfl, rfl⟩)
    · go_loop [5, 6] (fun n i => ∃ k : Nat, k ≤ t.size ∧ i = .int .i64 k ∧ n = .int .i64 (digV (t.data.toList.take k)) ∧ Hid (allDig (t.data.toList.take k))) (fun _ i => t.size - (RowKit.intOf i).toNat)
      case atStart => exact ⟨0, Nat.zero_le _, rfl, rfl, by intro c hc; simp at hc⟩
      case round =>
        obtain ⟨k, hk, rfl, rfl, had⟩ := hrel
        have hd := digV_lt6 (t.data.toList.take k) had.out (len_take6 t k f2)
        by_cases hlt : k < t.size
        · by_cases hdig : 48 ≤ (t[k]'hlt).toNat ∧ (t[k]'hlt).toNat ≤ 57
          · have HV := Lib.hid (digV_take t k hlt)
            have hn := Lib.hid (allDig_take t k hlt had.out hdig)
            obtain ⟨g1, g2⟩ := hdig
            go_wp2
            go_round
            case rel => exact ⟨k + 1, by omega, by go_num, by rw [HV.out], hn⟩
            case measure => simp [RowKit.intOf]; omega
          · have HN := Lib.hid (readV_dig (l := s.data.toList) (by rw [← HT.out]; exact not_allDig t k hlt hdig))
            by_cases g1 : (t[k]'hlt).toNat < 48
            · clear hdig
              go_wp2
              go_ret2
              exact ⟨by rw [HN.out]; rfl, 0, rfl⟩
            · have g2 : 57 < (t[k]'hlt).toNat := by omega
              clear hdig
              go_wp2
              go_ret2
              exact ⟨by rw [HN.out]; rfl, 0, rfl⟩
        · have hall := take_all t k hlt
          rw [hall] at hd
          have had' := had.out
          rw [hall] at had' ⊢
          have HG := Lib.hid (l1Num_any (-digV t.data.toList) w (by omega) (by omega))
          have HV : Hid (signV s.data.toList = -digV t.data.toList) := by rw [HS.out]; exact if_pos hts
          have HL : Hid (1 ≤ (restL s.data.toList).length ∧ (restL s.data.toList).length ≤ 6 ∧ allDig (restL s.data.toList)) := by rw [← HT.out, length_list]; exact ⟨f1, f2, had'⟩
          clear hall had had'
          generalize digV t.data.toList = z at *
          by_cases htext : itoa (-z) = s.data.toList
          · have hcmp : (itoa (-z) == s.toList) = true := by rw [ByteArray.toList_eq, beq_iff_eq]; exact htext
            have HR := Lib.hid (readV_yes HL.out.1 HL.out.2.1 HL.out.2.2 (by rw [HV.out]; exact htext))
            clear htext
            go_wp2_with (go_at_call 25; refine HG.out.mono ?_; rintro e w' ⟨rfl, m, rfl⟩)
            go_ret2
            exact ⟨by rw [HR.out, HV.out]; rfl, m, rfl⟩
          · have hcmp : (itoa (-z) == s.toList) = false := by rw [ByteArray.toList_eq, beq_eq_false_iff_ne]; exact htext
            have HR := Lib.hid (readV_text (l := s.data.toList) (by rw [HV.out]; exact htext))
            clear htext
            go_wp2_with (go_at_call 25; refine HG.out.mono ?_; rintro e w' ⟨rfl, m, rfl⟩)
            go_ret2
            exact ⟨by rw [HR.out]; rfl, m, rfl⟩
    · go_loop [5, 6] (fun n i => ∃ k : Nat, k ≤ s.size ∧ i = .int .i64 k ∧ n = .int .i64 (digV (s.data.toList.take k)) ∧ Hid (allDig (s.data.toList.take k))) (fun _ i => s.size - (RowKit.intOf i).toNat)
      case atStart => exact ⟨0, Nat.zero_le _, rfl, rfl, by intro c hc; simp at hc⟩
      case round =>
        obtain ⟨k, hk, rfl, rfl, had⟩ := hrel
        have hd := digV_lt6 (s.data.toList.take k) had.out (len_take6 s k f2)
        by_cases hlt : k < s.size
        · by_cases hdig : 48 ≤ (s[k]'hlt).toNat ∧ (s[k]'hlt).toNat ≤ 57
          · have HV := Lib.hid (digV_take s k hlt)
            have hn := Lib.hid (allDig_take s k hlt had.out hdig)
            obtain ⟨g1, g2⟩ := hdig
            go_wp2
            go_round
            case rel => exact ⟨k + 1, by omega, by go_num, by rw [HV.out], hn⟩
            case measure => simp [RowKit.intOf]; omega
          · have HN := Lib.hid (readV_dig (l := s.data.toList) (by rw [← HT.out]; exact not_allDig s k hlt hdig))
            by_cases g1 : (s[k]'hlt).toNat < 48
            · clear hdig
              go_wp2
              go_ret2
              exact ⟨by rw [HN.out]; rfl, 0, rfl⟩
            · have g2 : 57 < (s[k]'hlt).toNat := by omega
              clear hdig
              go_wp2
              go_ret2
              exact ⟨by rw [HN.out]; rfl, 0, rfl⟩
        · have hall := take_all s k hlt
          rw [hall] at hd
          have had' := had.out
          rw [hall] at had' ⊢
          have HG := Lib.hid (l1Num_any (digV s.data.toList) w (by omega) (by omega))
          have HV : Hid (signV s.data.toList = digV s.data.toList) := by rw [HS.out]; exact if_neg (by omega)
          have HL : Hid (1 ≤ (restL s.data.toList).length ∧ (restL s.data.toList).length ≤ 6 ∧ allDig (restL s.data.toList)) := by rw [← HT.out, length_list]; exact ⟨f1, f2, had'⟩
          clear hall had had'
          generalize digV s.data.toList = z at *
          by_cases htext : itoa (z) = s.data.toList
          · have hcmp : (itoa (z) == s.toList) = true := by rw [ByteArray.toList_eq, beq_iff_eq]; exact htext
            have HR := Lib.hid (readV_yes HL.out.1 HL.out.2.1 HL.out.2.2 (by rw [HV.out]; exact htext))
            clear htext
            go_wp2_with (go_at_call 25; refine HG.out.mono ?_; rintro e w' ⟨rfl, m, rfl⟩)
            go_ret2
            exact ⟨by rw [HR.out, HV.out]; rfl, m, rfl⟩
          · have hcmp : (itoa (z) == s.toList) = false := by rw [ByteArray.toList_eq, beq_eq_false_iff_ne]; exact htext
            have HR := Lib.hid (readV_text (l := s.data.toList) (by rw [HV.out]; exact htext))
            clear htext
            go_wp2_with (go_at_call 25; refine HG.out.mono ?_; rintro e w' ⟨rfl, m, rfl⟩)
            go_ret2
            exact ⟨by rw [HR.out]; rfl, m, rfl⟩
    · go_loop [5, 6] (fun n i => ∃ k : Nat, k ≤ s.size ∧ i = .int .i64 k ∧ n = .int .i64 (digV (s.data.toList.take k)) ∧ Hid (allDig (s.data.toList.take k))) (fun _ i => s.size - (RowKit.intOf i).toNat)
      case atStart => exact ⟨0, Nat.zero_le _, rfl, rfl, by intro c hc; simp at hc⟩
      case round =>
        obtain ⟨k, hk, rfl, rfl, had⟩ := hrel
        have hd := digV_lt6 (s.data.toList.take k) had.out (len_take6 s k f2)
        by_cases hlt : k < s.size
        · by_cases hdig : 48 ≤ (s[k]'hlt).toNat ∧ (s[k]'hlt).toNat ≤ 57
          · have HV := Lib.hid (digV_take s k hlt)
            have hn := Lib.hid (allDig_take s k hlt had.out hdig)
            obtain ⟨g1, g2⟩ := hdig
            go_wp2
            go_round
            case rel => exact ⟨k + 1, by omega, by go_num, by rw [HV.out], hn⟩
            case measure => simp [RowKit.intOf]; omega
          · have HN := Lib.hid (readV_dig (l := s.data.toList) (by rw [← HT.out]; exact not_allDig s k hlt hdig))
            by_cases g1 : (s[k]'hlt).toNat < 48
            · clear hdig
              go_wp2
              go_ret2
              exact ⟨by rw [HN.out]; rfl, 0, rfl⟩
            · have g2 : 57 < (s[k]'hlt).toNat := by omega
              clear hdig
              go_wp2
              go_ret2
              exact ⟨by rw [HN.out]; rfl, 0, rfl⟩
        · have hall := take_all s k hlt
          rw [hall] at hd
          have had' := had.out
          rw [hall] at had' ⊢
          have HG := Lib.hid (l1Num_any (digV s.data.toList) w (by omega) (by omega))
          have HV : Hid (signV s.data.toList = digV s.data.toList) := by rw [HS.out]; exact if_neg (by omega)
          have HL : Hid (1 ≤ (restL s.data.toList).length ∧ (restL s.data.toList).length ≤ 6 ∧ allDig (restL s.data.toList)) := by rw [← HT.out, length_list]; exact ⟨f1, f2, had'⟩
          clear hall had had'
          generalize digV s.data.toList = z at *
          by_cases htext : itoa (z) = s.data.toList
          · have hcmp : (itoa (z) == s.toList) = true := by rw [ByteArray.toList_eq, beq_iff_eq]; exact htext
            have HR := Lib.hid (readV_yes HL.out.1 HL.out.2.1 HL.out.2.2 (by rw [HV.out]; exact htext))
            clear htext
            go_wp2_with (go_at_call 25; refine HG.out.mono ?_; rintro e w' ⟨rfl, m, rfl⟩)
            go_ret2
            exact ⟨by rw [HR.out, HV.out]; rfl, m, rfl⟩
          · have hcmp : (itoa (z) == s.toList) = false := by rw [ByteArray.toList_eq, beq_eq_false_iff_ne]; exact htext
            have HR := Lib.hid (readV_text (l := s.data.toList) (by rw [HV.out]; exact htext))
            clear htext
            go_wp2_with (go_at_call 25; refine HG.out.mono ?_; rintro e w' ⟨rfl, m, rfl⟩)
            go_ret2
            exact ⟨by rw [HR.out]; rfl, m, rfl⟩
  · have hno := readV_len (l := s.data.toList) (by rw [← ht, htlen]; omega)
    have HN := Lib.hid hno
    have Hin := Lib.hid (l1In_no (t.size : Int) 1 6 w (by omega))
    clear hno ht htlen
    rcases hcase with ⟨h1, hz, hts, hsl⟩ | ⟨h1, hz, rfl⟩ | ⟨h1, rfl⟩
    all_goals
      go_enter Tryd.func29, Tryd.ntmps29
      go_wp2_with (go_at_call 24; refine Hin.out.mono ?_; rintro e w' ⟨rfl, rfl⟩)
      go_ret2
      exact ⟨by rw [HN.out]; rfl, 0, rfl⟩

theorem l1Read_any (s : ByteArray) (w : World) (hs : s.size ≤ maxLen) :
    Calls Tryd.prog 29 #[.string s] w fun e w' => e = .returned (.tuple #[.int .i64 (readV s.data.toList).1, .bool (readV s.data.toList).2]) ∧ ∃ m, w' = w.drewN m := by
  have hlen := length_list s
  have hhead : ∀ h : 0 < s.size, s.data.toList.head? = some (s[0]'h) := fun h => by
    rw [List.head?_eq_getElem?, List.getElem?_eq_getElem (by rw [hlen]; exact h)]; rfl
  by_cases h1 : 1 < s.size
  · by_cases hz : (s[0]'(by omega)) = 45
    · have hr : restL s.data.toList = s.data.toList.tail := by rw [restL, if_pos ⟨by omega, by rw [hhead (by omega), hz]⟩]
      refine l1Read_core s ⟨s.data.toList.tail.toArray⟩ w hs (by rw [hr]) (by rw [size_mk, List.length_tail]; omega) (.inl ⟨h1, by rw [hz]; rfl, by rw [size_mk, List.length_tail]; omega, fun W => ?_⟩)
      have e : s.extract 1 s.size = ⟨s.data.toList.tail.toArray⟩ := by
        apply ByteArray.ext
        apply Array.toList_inj.1
        rw [Lib.extract_data]
        simp only [List.drop_one]
        rw [List.take_of_length_le (by rw [List.length_tail]; omega)]
      rw [← e]
      have h2 : (1 : Int) ≤ s.size := by omega
      rw [run_slice_string_from_if _ _ _ _ _ Tryd.underlying9, if_pos ⟨by omega, h2⟩]
      rfl
    · have hr : restL s.data.toList = s.data.toList := by
        rw [restL, if_neg]; rintro ⟨_, h⟩; rw [hhead (by omega)] at h; exact hz (by simpa using h)
      refine l1Read_core s s w hs hr.symm (Nat.le_refl _) (.inr (.inl ⟨h1, ?_, rfl⟩))
      rw [beq_eq_false_iff_ne]
      intro h
      exact hz (UInt8.toNat_inj.1 (by show _ = 45; omega))
  · have hr : restL s.data.toList = s.data.toList := by rw [restL, if_neg]; rintro ⟨h, _⟩; omega
    exact l1Read_core s s w hs hr.symm (Nat.le_refl _) (.inr (.inr ⟨by omega, rfl⟩))

theorem specParse_any (s : ByteArray) (w : World) (hs : s.size ≤ maxLen) :
    Calls Tryd.prog 14 #[.string s] w fun e w' => e = .returned (.tuple #[.int .i64 (readV s.data.toList).1, .bool (readV s.data.toList).2]) ∧ ∃ m, w' = w.drewN m := by
  have H := Lib.hid (l1Read_any s w hs)
  clear hs
  generalize readV s.data.toList = r at *
  go_enter Tryd.func14, Tryd.ntmps14
  go_wp2_with (go_at_call 29; refine H.out.mono ?_; rintro e w' ⟨rfl, m, rfl⟩)
  go_ret2
  exact ⟨rfl, m, rfl⟩

/-- strconv.Atoi: a number, or an error that is not nil -/
theorem atoi_end (s : ByteArray) (w : World) (hs : s.size ≤ 281474976710656) (x0 x1 : TypeId) (y0 y1 : Value) (h0 : w.cell? ⟨0, 0, none⟩ = some (.iface x0 y0)) (h1 : w.cell? ⟨1, 0, none⟩ = some (.iface x1 y1)) :
    (∃ v, atoiAll s.data.toList = .ok v ∧ -9223372036854775808 ≤ v ∧ v ≤ 9223372036854775807 ∧ Calls Tryd.prog 28 #[.string s] w fun e w' => e = .returned (.tuple #[.int .i64 v, .nilIface]) ∧ Below w.heap.size w w') ∨
    ((∀ v, atoiAll s.data.toList ≠ .ok v) ∧ Calls Tryd.prog 28 #[.string s] w fun e w' => ∃ z u p, e = .returned (.tuple #[.int .i64 z, .iface u p]) ∧ Below w.heap.size w w') := by
  rcases h : atoiAll s.data.toList with v | _ | _
  · refine .inl ⟨v, rfl, (atoiAll_bounds h).1, (atoiAll_bounds h).2, (Any.strconv_Atoi_ok Tryd.laysC172 s (by omega) v h w).mono fun e w' ⟨he, hw⟩ => ⟨he, ?_⟩⟩
    rcases hw with rfl | ⟨t, rfl⟩
    · exact Below.refl _ _
    · exact bytesWorld_below w _ t
  · refine .inr ⟨(fun v hv => by cases hv), (Any.strconv_Atoi_syntax Tryd.laysC172 s hs h _ w h0 (.inr ⟨_, _, rfl⟩)).mono fun e w' ⟨N, he, _, _, hb⟩ => ⟨_, _, _, he, hb⟩⟩
  · refine .inr ⟨(fun v hv => by cases hv), (Any.strconv_Atoi_range Tryd.laysC172 s hs h _ w h1 (.inr ⟨_, _, rfl⟩)).mono fun e w' ⟨N, he, _, _, hb⟩ => ⟨_, _, _, he, hb⟩⟩

/-- the cell of a sentinel error holds an error, as long as nothing below the heap's size at the start turns -/
theorem errCell {laid : List (String × DataW Unit)} {W : World} {nm : String} {g : Nat} {nd : String} {d : DataW Unit} (hg : Tryd.prog.globalNamed nm = some g) (hty : (Tryd.prog.globals[g]?).map (·.type) = some 46)
    (hf : laid.filter (fun x => x.1 == nm) = [(nm, .iface nd d)]) (hn : (DataW.iface nd d).handleName?.isNone = true) (h : laidMetH Tryd.prog laid W) : ∃ u x, ∀ w', Below W.heap.size W w' → w'.cell? ⟨g, 0, none⟩ = some (.iface u x) := by
  have h1 := h.filter (fun x => x.1 == nm)
  rw [hf, MakeChecks.laidMetH_plain _ _ _ (by simpa using hn)] at h1
  obtain ⟨ps, ⟨g', t', cs, fuel, p, q, hg', ht', hv, hd, _, _⟩, _⟩ := h1
  obtain rfl := Option.some.inj (hg.symm.trans hg')
  obtain rfl := Option.some.inj (hty.symm.trans ht')
  obtain ⟨_, u, x, hcs, _⟩ := iface_of_trod Tryd.underlying46 hd
  have hc : W.cell? ⟨g, 0, none⟩ = some (.iface u x) := by
    have := World.var?_cell hg hv 0
    rw [Array.eq_one_of_toList hcs] at this
    simpa using this
  have hlt : g < W.heap.size := World.block_lt_of_cell? W ⟨g, 0, none⟩ hc
  exact ⟨u, x, fun w' hb => by rw [hb.cell (p := ⟨g, 0, none⟩) hlt]; exact hc⟩

set_option maxHeartbeats 1000000 in
theorem implParse_any (s : ByteArray) (w : World) (hs : s.size ≤ 281474976710656) (htab : TabBelow Tryd.prog w.heap.size w "internal/strconv.uint64pow10" .u64 pow10Tab)
    (x0 x1 : TypeId) (y0 y1 : Value) (h0 : w.cell? ⟨0, 0, none⟩ = some (.iface x0 y0)) (h1 : w.cell? ⟨1, 0, none⟩ = some (.iface x1 y1)) :
    Calls Tryd.prog 13 #[.string s] w fun e w' => e = .returned (.tuple #[.int .i64 (readV s.data.toList).1, .bool (readV s.data.toList).2]) ∧ Below w.heap.size w w' := by
  rcases atoi_end s w hs x0 x1 y0 y1 h0 h1 with ⟨v, hv, hv0, hv1, hc⟩ | ⟨hno, hc⟩
  · have HC := Lib.hid hc
    by_cases hin : -999999 ≤ v ∧ v ≤ 999999
    · obtain ⟨b0, b1⟩ := hin
      have HF := Lib.hid (fun w1 (hb : Below w.heap.size w w1) => implFormat_yes v w1 b0 b1 (htab w1 hb))
      by_cases he : itoa v = s.data.toList
      · have HR := Lib.hid (readV_of (l := s.data.toList) (n := v) ⟨b0, b1, he⟩)
        have hcmp : (itoa v == s.toList) = true := by rw [ByteArray.toList_eq, beq_iff_eq]; exact he
        clear he hv hc htab h0 h1
        go_enter Tryd.func13, Tryd.ntmps13
        go_wp2_with (first | (go_at_call 28; refine HC.out.mono ?_; rintro e w1 ⟨rfl, hb⟩) | (go_at_call 10; refine (HF.out _ hb).mono ?_; rintro e w2 ⟨rfl, hb2⟩))
        go_ret2
        exact ⟨by rw [HR.out]; rfl, hb.trans (hb2.mono hb.size)⟩
      · have HR := Lib.hid (readV_none (l := s.data.toList) (by
          rintro n ⟨n0, n1, hn⟩
          have := atoiAll_itoa n n0 n1
          rw [hn, hv] at this
          have e : v = n := by injection this
          exact he (by rw [e]; exact hn)))
        have hcmp : (itoa v == s.toList) = false := by rw [ByteArray.toList_eq, beq_eq_false_iff_ne]; exact he
        clear he hv hc htab h0 h1
        go_enter Tryd.func13, Tryd.ntmps13
        go_wp2_with (first | (go_at_call 28; refine HC.out.mono ?_; rintro e w1 ⟨rfl, hb⟩) | (go_at_call 10; refine (HF.out _ hb).mono ?_; rintro e w2 ⟨rfl, hb2⟩))
        go_ret2
        exact ⟨by rw [HR.out]; rfl, hb.trans (hb2.mono hb.size)⟩
    · have HF := Lib.hid (fun w1 => implFormat_no v w1 (by omega))
      have HR := Lib.hid (readV_none (l := s.data.toList) (by
          rintro n ⟨n0, n1, hn⟩
          have := atoiAll_itoa n n0 n1
          rw [hn, hv] at this
          have e : v = n := by injection this
          exact hin (by rw [e]; exact ⟨n0, n1⟩)))
      clear hin hv hc htab h0 h1
      go_enter Tryd.func13, Tryd.ntmps13
      go_wp2_with (first | (go_at_call 28; refine HC.out.mono ?_; rintro e w1 ⟨rfl, hb⟩) | (go_at_call 10; refine (HF.out _).mono ?_; rintro e w2 ⟨rfl, rfl⟩))
      go_ret2
      exact ⟨by rw [HR.out]; rfl, hb⟩
  · have HC := Lib.hid hc
    have HR := Lib.hid (readV_none (l := s.data.toList) (by
          rintro n ⟨n0, n1, hn⟩
          have := atoiAll_itoa n n0 n1
          rw [hn] at this
          exact hno n this))
    clear hno hc htab h0 h1
    go_enter Tryd.func13, Tryd.ntmps13
    go_wp2_with (go_at_call 28; refine HC.out.mono ?_; rintro e w1 ⟨z, u, p, rfl, hb⟩)
    go_ret2
    exact ⟨by rw [HR.out]; rfl, hb⟩
end Go.Proofs.YtmjopejjbdmniaaDoor
