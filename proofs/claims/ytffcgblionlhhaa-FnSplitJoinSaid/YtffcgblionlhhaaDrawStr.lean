/-
  CONTRACTS of spec.DrawSplitString, DrawLessString, DrawJoinStrings: short texts; nothing that was in memory turns.
-/
import Derived.Test.YtffcgblionlhhaaDraw1b
import Derived.Test.YtffcgblionlhhaaSJFact
import Derived.Deep.AppendLies
namespace Go.Proofs.Ytffcgblionlhhaa
open Go.RowKit
set_option linter.unusedVariables false

def seps5 : List ByteArray := [⟨#[44]⟩, ⟨#[44]⟩, ⟨#[32]⟩, ⟨#[]⟩, ⟨#[44, 44]⟩]
def marks5 : List ByteArray := [⟨#[44]⟩, ⟨#[59]⟩, ⟨#[59]⟩, ⟨#[]⟩, ⟨#[97, 98]⟩]
theorem seps5_size : ∀ x ∈ seps5, x.size ≤ 2 := by decide
theorem marks5_size : ∀ x ∈ marks5, x.size ≤ 2 := by decide

theorem drawSplitString_any (v : Value) (w : World) (h : CodeAt w v) :
    Calls Try.prog 17 #[v] w fun e w' => (∃ x y : ByteArray, x.size ≤ 20 ∧ y.size ≤ 2 ∧ e = .returned (.tuple #[.string x, .string y])) ∧ Below w.heap.size w w' := by
  obtain ⟨ca, cn, cc, rfl⟩ := codeAt_slice h
  obtain ⟨hc, ho, hb⟩ := cur_new w _ h
  have hbuild := build_cur ca cn cc
  have H1 := Lib.hid (any1_any w.heap.size 0 (.slice ca cn cc) _ hc ho (by omega))
  have HB := Lib.hid hb
  clear hc ho hb h
  go_enter Try.func17, Try.ntmps17
  go_wp2_with fail
  go_at_call 95
  refine H1.out.mono ?_
  rintro e w1 ⟨⟨x, hx, rfl⟩, hp⟩
  have hlt := curAt_lt hp.1
  have H2 := Lib.hid (of_any w.heap.size 2 (.slice ca cn cc) (.slice (some ⟨w1.heap.size, 0, none⟩) 5 5) seps5 (w1.alloc (.cells (seps5.map Value.string).toArray 9))
    (curAt_alloc hp.1 _) (codeOff_grown hp.2.1 grown_alloc) (by omega) (listOff_built w1 w.heap.size _ 9 hlt (by decide)) (by decide) (by decide))
  have HP := Lib.hid hp
  clear hp hlt
  go_wp2_with fail
  go_at_call 96
  refine H2.out.mono ?_
  rintro e w2 ⟨⟨y, hy, rfl⟩, h1, h2, h3⟩
  have hys := seps5_size y hy
  have hfin : Below w.heap.size w w2 := below_of_curPost HB.out (curPost_trans HP.out ⟨h1, h2, grown_trans grown_alloc h3⟩)
  clear hy h1 h2 h3
  go_wp2_with fail
  go_ret2
  exact ⟨⟨x, y, hx, hys, rfl⟩, hfin⟩

theorem drawLessString_any (v : Value) (w : World) (h : CodeAt w v) :
    Calls Try.prog 22 #[v] w fun e w' => (∃ x y : ByteArray, x.size ≤ 20 ∧ y.size ≤ 20 ∧ e = .returned (.tuple #[.string x, .string y])) ∧ Below w.heap.size w w' := by
  obtain ⟨ca, cn, cc, rfl⟩ := codeAt_slice h
  obtain ⟨hc, ho, hb⟩ := cur_new w _ h
  have hbuild := build_cur ca cn cc
  have H1 := Lib.hid (any1_any w.heap.size 0 (.slice ca cn cc) _ hc ho (by omega))
  have HB := Lib.hid hb
  clear hc ho hb h
  go_enter Try.func22, Try.ntmps22
  go_wp2_with fail
  go_at_call 95
  refine H1.out.mono ?_
  rintro e w1 ⟨⟨x, hx, rfl⟩, hp⟩
  have H2 := Lib.hid (any1_any w.heap.size 2 (.slice ca cn cc) w1 hp.1 hp.2.1 (by omega))
  have HP := Lib.hid hp
  clear hp
  go_wp2_with fail
  go_at_call 95
  refine H2.out.mono ?_
  rintro e w2 ⟨⟨y, hy, rfl⟩, hp2⟩
  have hfin : Below w.heap.size w w2 := below_of_curPost HB.out (curPost_trans HP.out hp2)
  clear hp2
  go_wp2_with fail
  go_ret2
  exact ⟨⟨x, y, hx, hy, rfl⟩, hfin⟩

theorem codeAt_later {w w' : World} {v : Value} (h : CodeAt w v) (hb : Below w.heap.size w w') : CodeAt w' v := by
  obtain ⟨l, hr⟩ := h; exact ⟨l, hr.below rfl hb⟩
/-- the cursor while another row grows -/
theorem curAt_far {w w' : World} {b n : Nat} {v : Value} {row : Option Nat} (h : CurAt w b v n) (hg : w.grownBy w' row) (hne : row ≠ some b) : CurAt w' b v n := by
  have hlt := curAt_lt h
  obtain ⟨k, s, h1, h2⟩ := h
  exact ⟨k, s, by rw [hg.block b hlt (fun e => hne e.symm)]; exact h1, h2⟩
theorem codeOff_at {w w' : World} {b : Nat} {v : Value} (h : CodeOff w b v) (hc : CodeAt w' v) : CodeOff w' b v := ⟨hc, h.2⟩
theorem own_strs_new (w : World) (B : Nat) (hB : B ≤ w.heap.size) : (w.alloc (.cells #[] 9)).ownsRow B 9 1 (.slice (some ⟨w.heap.size, 0, none⟩) 0 0) 0 (strs []) := by
  have h := World.ownsRow_lit (base := B) (e := 9) (size := 1) w #[] 0 hB (by decide) (by simp)
  simpa [strs] using h

set_option maxRecDepth 100000 in
set_option maxHeartbeats 4000000 in
theorem drawJoinStrings_any (v : Value) (w : World) (h : CodeAt w v) :
    Calls Try.prog 19 #[v] w fun e w' => (∃ (xs : List ByteArray) (y : ByteArray) (z : Value), xs.length ≤ 5 ∧ (∀ x ∈ xs, x.size ≤ 4010) ∧ y.size ≤ 2 ∧ e = .returned (.tuple #[z, .string y]) ∧ RowAt w' z (strs xs)) ∧ Below w.heap.size w w' := by
  have HC0 := Lib.hid h
  obtain ⟨ca, cn, cc, rfl⟩ := codeAt_slice h
  obtain ⟨hc, ho, hb⟩ := cur_new w _ h
  have hbuild := build_cur ca cn cc
  obtain ⟨i0, hi0, hz0, hz1, hz2⟩ := info_parts infoString
  obtain ⟨i1, hi1, hy0, hy1, hy2⟩ := info_parts infoByte
  have HRow := Lib.hid (own_strs_new (w.alloc (.cells #[.slice ca cn cc, .int .i64 0, .int .u64 0] 123)) (w.heap.size + 1) (by simp))
  simp only [World.size_alloc] at HRow
  have H1 := Lib.hid (pick_any w.heap.size 0 (.slice ca cn cc) 4 _ (curAt_alloc hc (.cells #[] 9)) (codeOff_grown ho grown_alloc) (by omega) (by omega))
  have HB := Lib.hid (hb.alloc (by simp) (.cells #[] 9))
  clear hc ho hb h
  go_enter Try.func19, Try.ntmps19
  go_wp2_with fail
  go_at_call 99
  refine H1.out.mono ?_
  rintro e w1 ⟨⟨r, rfl, hr0, hr1⟩, hp⟩
  have hr := hr1 (by omega)
  obtain ⟨N, rfl⟩ := Int.eq_ofNat_of_zero_le hr0
  have hN : N ≤ 3 := by omega
  have HO1 : Hid (w1.ownsRow (w.heap.size + 1) 9 1 (.slice (some ⟨w.heap.size + 1, 0, none⟩) 0 0) 0 (strs [])) := HRow.out.kept hp.2.2 (.inr (by simp [Value.ownBlock]))
  have HP : Hid (CurAt w1 w.heap.size (.slice ca cn cc) 2 ∧ CodeOff w1 w.heap.size (.slice ca cn cc) ∧ Below w.heap.size w w1) := ⟨hp.1, hp.2.1, HB.out.grown hp.2.2 (by simp; omega) (fun g hg => by cases hg; exact Nat.le_refl _)⟩
  clear hp hr0 hr1 hr HRow HB H1
  go_wp2_with fail
  go_loopw [5, 7] (fun o q wr => ∃ (k : Nat) (xs : List ByteArray), k ≤ N ∧ q = .int .i64 k ∧ xs.length = k ∧ Hid (∀ x ∈ xs, x.size ≤ 4010) ∧ Hid (wr.ownsRow (w.heap.size + 1) 9 1 o k (strs xs)) ∧ Hid (CurAt wr w.heap.size (.slice ca cn cc) (2 + 2 * k) ∧ CodeOff wr w.heap.size (.slice ca cn cc) ∧ Below w.heap.size w wr))
    (fun _ q _ => N - (RowKit.intOf q).toNat)
  case atStart => exact ⟨0, [], Nat.zero_le _, rfl, rfl, fun x hx => by simp at hx, HO1.out, HP.out⟩
  case round =>
    obtain ⟨k, xs, hk, rfl, hxl, HXs, HOwn, HCur⟩ := hrel
    by_cases hlt : k < N
    · have hk1 : (k : Int) < (N : Int) := by omega
      have H2 := Lib.hid (any1_any w.heap.size (2 + 2 * k) (.slice ca cn cc) wr HCur.out.1 HCur.out.2.1 (by omega))
      obtain ⟨oa, oc, rfl⟩ := own_shape HOwn.out
      obtain ⟨wo, rfl⟩ : ∃ wo : World, wo = wr := ⟨_, rfl⟩
      go_wp2_with fail
      go_at_call 95
      refine H2.out.mono ?_
      rintro e w2 ⟨⟨x, hx, rfl⟩, hp2⟩
      have hnb : ∀ g, (Value.slice oa k oc).ownBlock = some g → w.heap.size + 1 ≤ g := fun g hg => (HOwn.out.lt g hg).1
      have hne : (Value.slice oa k oc).ownBlock ≠ some w.heap.size := fun e => by have := hnb _ e; omega
      have HOw2 := Lib.hid (HOwn.out.kept hp2.2.2 (.inr hne))
      have HC2 : Hid (CurAt w2 w.heap.size (.slice ca cn cc) (2 + 2 * (k + 1)) ∧ CodeOff w2 w.heap.size (.slice ca cn cc) ∧ Below w.heap.size w w2 ∧ w.heap.size < w2.heap.size) := ⟨by have := hp2.1; rwa [show 2 + 2 * k + 2 = 2 + 2 * (k + 1) by omega] at this, hp2.2.1, HCur.out.2.2.grown hp2.2.2 HCur.out.2.2.size (fun g hg => by cases hg; exact Nat.le_refl _), curAt_lt hp2.1⟩
      have hsz2 := HC2.out.2.2.2
      clear hp2 HCur HOwn
      go_wp2_with (at_builtin; refine wpList_append_lies _ rfl _ _ 26 rfl (w.heap.size + 1) 9 i0 (.string ⟨#[]⟩) 1 16 Try.underlying26 hi0 hz0 hz1 hz2 rfl (by decide) _ _ _ rfl (HOw2.out.alloc _) ⟨w2.heap.size, 0, none⟩ 1 1 [.string x] rfl rfl ?c1 ?c2 (by omega) ?c3 ?c4 ?c5 (w2.heap.size + 1) ?c6 ?_)
      case c1 => exact one_newN _ _ _ rfl
      case c2 => intro u hu; simp at hu; subst hu; rfl
      case c3 => unfold maxLen; omega
      case c4 => omega
      case c5 => simp; omega
      case c6 => simp
      intro g3 c3 w3 hown3 hg3 hat3 hlt3
      have hg3' : (w2.alloc (.cells #[.string x] 9)).grownBy w3 (Value.slice oa k oc).ownBlock := hg3
      have hb3 : Below w.heap.size w w3 := (HC2.out.2.2.1.alloc HC2.out.2.2.1.size (.cells #[.string x] 9)).grown hg3' (by have := HC2.out.2.2.1.size; simp; omega) (fun g hg => by have := hnb g hg; omega)
      have HC3 : Hid (CurAt w3 w.heap.size (.slice ca cn cc) (2 + 2 * (k + 1)) ∧ CodeOff w3 w.heap.size (.slice ca cn cc) ∧ Below w.heap.size w w3) := ⟨curAt_far (curAt_alloc HC2.out.1 _) hg3' hne, codeOff_at HC2.out.2.1 (codeAt_later HC0.out hb3), hb3⟩
      have HO3 : Hid (w3.ownsRow (w.heap.size + 1) 9 1 (.slice (some ⟨g3, 0, none⟩) (k + 1) c3) (k + 1) (strs (xs ++ [x]))) := by
        show World.ownsRow _ _ _ _ _ _ _
        simpa [strs] using hown3
      have HX3 : Hid (∀ y ∈ xs ++ [x], y.size ≤ 4010) := fun y hy => by
        rcases List.mem_append.1 hy with hy | hy
        · exact HXs.out y hy
        · simp at hy; subst hy; omega
      clear hown3 hg3 hg3' hat3 hlt3 hb3 HC2 HOw2
      go_wp2_with fail
      go_roundw
      case rel => exact ⟨k + 1, xs ++ [x], by omega, by go_num, by simp [hxl], HX3, HO3, HC3⟩
      case measure => simp [RowKit.intOf]; omega
    · obtain rfl : k = N := by omega
      have hk1 : ¬ (k : Int) < (k : Int) := by omega
      have H2 := Lib.hid (one_any w.heap.size (2 + 2 * k) (.slice ca cn cc) 20 wr HCur.out.1 HCur.out.2.1 (by omega) (by omega))
      obtain ⟨oa, oc, rfl⟩ := own_shape HOwn.out
      have hnb : ∀ g, (Value.slice oa k oc).ownBlock = some g → w.heap.size + 1 ≤ g := fun g hg => (HOwn.out.lt g hg).1
      have hne : (Value.slice oa k oc).ownBlock ≠ some w.heap.size := fun e => by have := hnb _ e; omega
      obtain ⟨wo, rfl⟩ : ∃ wo : World, wo = wr := ⟨_, rfl⟩
      go_wp2_with fail
      go_at_call 100
      refine H2.out.mono ?_
      rintro e w2 ⟨⟨r, rfl⟩, hp2⟩
      have HOw2 := Lib.hid (HOwn.out.kept hp2.2.2 (.inr hne))
      have HC2 : Hid (CurAt w2 w.heap.size (.slice ca cn cc) (2 + 2 * k + 2) ∧ CodeOff w2 w.heap.size (.slice ca cn cc) ∧ Below w.heap.size w w2 ∧ w.heap.size < w2.heap.size) := ⟨hp2.1, hp2.2.1, HCur.out.2.2.grown hp2.2.2 HCur.out.2.2.size (fun g hg => by cases hg; exact Nat.le_refl _), curAt_lt hp2.1⟩
      have hsz2 := HC2.out.2.2.2
      clear hp2 HCur HOwn H2
      have hlast : ∀ (w4 : World) (n : Nat) (o : Value) (ys : List ByteArray), n ≤ 100 → CurAt w4 w.heap.size (.slice ca cn cc) n → CodeOff w4 w.heap.size (.slice ca cn cc) → Below w.heap.size w w4 → RowAt w4 o (strs ys) → w4.ownsRow (w.heap.size + 1) 9 1 o ys.length (strs ys) →
          Calls Try.prog 96 #[.pointer (some ⟨w.heap.size, 0, none⟩), .slice (some ⟨w4.heap.size, 0, none⟩) 5 5] (w4.alloc (.cells (marks5.map Value.string).toArray 9)) fun e w' => (∃ y : ByteArray, y.size ≤ 2 ∧ e = .returned (.string y)) ∧ RowAt w' o (strs ys) ∧ Below w.heap.size w w' := fun w4 n o ys hn h1 h2 h3 h4 h5 => by
        have hlt := curAt_lt h1
        refine (of_any w.heap.size n (.slice ca cn cc) (.slice (some ⟨w4.heap.size, 0, none⟩) 5 5) marks5 (w4.alloc (.cells (marks5.map Value.string).toArray 9)) (curAt_alloc h1 _) (codeOff_grown h2 grown_alloc) (by omega) (listOff_built w4 w.heap.size _ 9 hlt (by decide)) (by decide) (by decide)).mono ?_
        rintro e w5 ⟨⟨y, hy, rfl⟩, k1, k2, k3⟩
        refine ⟨⟨y, marks5_size y hy, rfl⟩, rowAt_own ((h5.alloc _).kept k3 (.inr fun e => by have := (h5.lt _ e).1; omega)), (h3.alloc h3.size _).grown k3 (by have := h3.size; simp; omega) (fun g hg => by cases hg; exact Nat.le_refl _)⟩
      cases r
      · have H3 := Lib.hid (hlast w2 (2 + 2 * k + 2) (.slice oa k oc) xs (by omega) HC2.out.1 HC2.out.2.1 HC2.out.2.2.1 (rowAt_own HOw2.out) (by rw [hxl]; exact HOw2.out))
        clear hlast
        go_wp2_with fail
        go_at_call 96
        refine H3.out.mono ?_
        rintro e w5 ⟨⟨y, hy, rfl⟩, hr5, hb5⟩
        have HR5 := Lib.hid hr5
        clear hr5
        go_wp2_with fail
        go_ret2
        exact ⟨⟨xs, y, .slice oa k oc, by omega, HXs.out, hy, rfl, HR5.out⟩, hb5⟩
      · have H3 := Lib.hid (pick_any w.heap.size (2 + 2 * k + 2) (.slice ca cn cc) 20 w2 HC2.out.1 HC2.out.2.1 (by omega) (by omega))
        have HLast := Lib.hid hlast
        clear hlast
        go_wp2_with fail
        go_at_call 99
        refine H3.out.mono ?_
        rintro e w3 ⟨⟨q, rfl, q0, q1⟩, hp3⟩
        have hq := q1 (by omega)
        obtain ⟨m, rfl⟩ := Int.eq_ofNat_of_zero_le q0
        have HOw3 := Lib.hid (HOw2.out.kept hp3.2.2 (.inr hne))
        have HC3 : Hid (CurAt w3 w.heap.size (.slice ca cn cc) (2 + 2 * k + 4) ∧ CodeOff w3 w.heap.size (.slice ca cn cc) ∧ Below w.heap.size w w3) := ⟨hp3.1, hp3.2.1, HC2.out.2.2.1.grown hp3.2.2 HC2.out.2.2.1.size (fun g hg => by cases hg; exact Nat.le_refl _)⟩
        have hsz3 := curAt_lt hp3.1
        clear q1 hp3 H3 HC2 HOw2
        go_wp2_with (at_make; refine wpList_make_full _ rfl _ _ 22 rfl w3.heap.size 5 i1 (.int .u8 0) 1 Try.underlying22 hi1 hy0 hy1 .i64 .i64 (3990 + (m : Int)) (3990 + (m : Int)) (3990 + m) rfl rfl (by omega) (by omega) ?c1 ?c2 ?c3 ?_)
        case c1 => rw [hy2]; omega
        case c2 => unfold maxLen; omega
        case c3 => exact Nat.le_refl _
        intro w4 hown hgrow
        have hb4 : Below w3.heap.size w3 w4 := (Below.refl _ _).grown hgrow (Nat.le_refl _) (fun k hk => by cases hk)
        have hcells : ∀ i, i < 3990 + m → w4.cell? ⟨w3.heap.size, 0 + i, none⟩ = some (.int .u8 ((List.replicate (3990 + m) (0 : Int)).getD i 0)) := by
          intro i hi2
          rw [Nat.zero_add, hown.cellAt i (by omega), toList_madeCells_one]
          simp [hi2, List.getD]
        have hconv := run_convert_bytes_arg (P := Try.prog) w4 22 5 Try.underlying22 Try.underlying5 w3.heap.size 0 (3990 + m) (3990 + m) (List.replicate (3990 + m) (0 : Int)) (by simp) hcells 9 Try.underlying9
        have hsz : (strOfNums (List.replicate (3990 + m) (0 : Int))).size ≤ 4010 := by rw [strOfNums_size, List.length_replicate]; omega
        have HC4 : Hid (CurAt w4 w.heap.size (.slice ca cn cc) (2 + 2 * k + 4) ∧ Below w.heap.size w w4 ∧ w.heap.size < w4.heap.size) := ⟨curAt_far HC3.out.1 hgrow (by simp), HC3.out.2.2.trans (hb4.mono HC3.out.2.2.size), by have := hb4.size; omega⟩
        have HOw4 := Lib.hid (own_later HOw3.out hb4)
        have hsz4 := HC4.out.2.2
        clear hcells hown hgrow hb4
        generalize strOfNums (List.replicate (3990 + m) (0 : Int)) = x at *
        go_wp2_with (at_builtin; refine wpList_append_lies _ rfl _ _ 26 rfl (w.heap.size + 1) 9 i0 (.string ⟨#[]⟩) 1 16 Try.underlying26 hi0 hz0 hz1 hz2 rfl (by decide) _ _ _ rfl (HOw4.out.alloc _) ⟨w4.heap.size, 0, none⟩ 1 1 [.string x] rfl rfl ?c1 ?c2 (by omega) ?c3 ?c4 ?c5 (w4.heap.size + 1) ?c6 ?_)
        case c1 => exact one_newN _ _ _ rfl
        case c2 => intro u hu; simp at hu; subst hu; rfl
        case c3 => unfold maxLen; omega
        case c4 => omega
        case c5 => simp; omega
        case c6 => simp
        intro g5 c5 w5 hown5 hg5 hat5 hlt5
        have hg5' : (w4.alloc (.cells #[.string x] 9)).grownBy w5 (Value.slice oa k oc).ownBlock := hg5
        have hb5 : Below w.heap.size w w5 := (HC4.out.2.1.alloc HC4.out.2.1.size (.cells #[.string x] 9)).grown hg5' (by have := HC4.out.2.1.size; simp; omega) (fun g hg => by have := hnb g hg; omega)
        have hxl2 : (xs ++ [x]).length = k + 1 := by simp [hxl]
        have hown6 : w5.ownsRow (w.heap.size + 1) 9 1 (.slice (some ⟨g5, 0, none⟩) (k + 1) c5) (xs ++ [x]).length (strs (xs ++ [x])) := by
          rw [hxl2]; simpa [strs] using hown5
        have HX5 : Hid (∀ y ∈ xs ++ [x], y.size ≤ 4010) := fun y hy => by
          rcases List.mem_append.1 hy with hy | hy
          · exact HXs.out y hy
          · simp at hy; subst hy; omega
        have H5 := Lib.hid (HLast.out w5 (2 + 2 * k + 4) (.slice (some ⟨g5, 0, none⟩) (k + 1) c5) (xs ++ [x]) (by omega) (curAt_far (curAt_alloc HC4.out.1 _) hg5' hne) (codeOff_at HC3.out.2.1 (codeAt_later HC0.out hb5)) hb5 (rowAt_own hown6) hown6)
        clear hown5 hown6 hg5 hg5' hat5 hlt5 HLast hb5 hconv
        go_wp2_with fail
        go_at_call 96
        refine H5.out.mono ?_
        rintro e w6 ⟨⟨y, hy, rfl⟩, hr6, hb6⟩
        have HR6 := Lib.hid hr6
        clear hr6
        go_wp2_with fail
        go_ret2
        exact ⟨⟨xs ++ [x], y, .slice (some ⟨g5, 0, none⟩) (k + 1) c5, by omega, HX5.out, hy, rfl, HR6.out⟩, hb6⟩
end Go.Proofs.Ytffcgblionlhhaa
