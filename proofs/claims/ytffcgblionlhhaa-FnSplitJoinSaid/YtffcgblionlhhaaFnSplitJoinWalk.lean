/-
  THE WALK of laws.FnSplitJoin: for every code the law returns true and nothing that was in memory turns.
-/
import Derived.Test.YtffcgblionlhhaaDrawStr
import Derived.Test.YtffcgblionlhhaaCodeIn
namespace Go.Proofs.Ytffcgblionlhhaa.fnSplitJoin
open Go.RowKit
set_option linter.unusedVariables false
set_option linter.unusedSimpArgs false

set_option maxRecDepth 100000 in
set_option maxHeartbeats 8000000 in
theorem walk (v0 : Value) (W : World) (S0 : CodeAt W v0) (hL : laidMetH Try.prog Rows.fnSplitJoinRow.laid W) (hsh : W.ShapedOpen Try.prog) :
    Calls Try.prog 3 #[v0] W fun e w' => e = .returned (.bool true) ∧ Below W.heap.size W w' := by
  clear hL hsh
  have HD1 := Lib.hid (drawSplitString_any v0 W S0)
  have HD2 := Lib.hid (fun w (h : Below W.heap.size W w) => drawJoinStrings_any v0 w (codeAt_later S0 h))
  have HD3 := Lib.hid (fun w (h : Below W.heap.size W w) => drawLessString_any v0 w (codeAt_later S0 h))
  obtain ⟨l, a, c, rfl, h1, h2, h3⟩ := S0
  clear h3
  obtain ⟨b1, b2⟩ := vBig_any a _ c W (show (l.map byteV).length ≤ maxLen by omega)
  generalize (l.map byteV).length = n at *
  by_cases hbig : 65536 < n
  · have HB := Lib.hid (b1 hbig)
    clear b1 b2
    go_enter Try.func3, Try.ntmps3
    go_wp2_with (go_at_call 16; refine HB.out.mono ?_; rintro e w' ⟨rfl, rfl⟩)
    go_ret
    exact ⟨rfl, Below.refl _ _⟩
  have HB := Lib.hid (b2 (by omega))
  clear b1 b2
  go_enter Try.func3, Try.ntmps3
  go_wp2_with fail
  go_at_call 16
  refine HB.out.mono ?_
  rintro e w' ⟨rfl, rfl⟩
  clear HB
  go_wp2_with fail
  go_at_call 17
  refine HD1.out.mono ?_
  rintro e w1 ⟨⟨s, sep, hs, hsep, rfl⟩, hb1⟩
  have HB1 := Lib.hid hb1
  clear HD1 hb1
  have HSp := Lib.hid (implSplitString_any s sep w1 (by unfold maxLen; omega) (by unfold maxLen; omega))
  go_wp2_with fail
  go_at_call 18
  refine HSp.out.mono ?_
  rintro e w2 ⟨z, rfl, hz, hb2⟩
  have hzl := spAns_len s sep
  have HB2 : Hid (Below W.heap.size W w2) := HB1.out.trans (hb2.mono HB1.out.size)
  obtain ⟨za, zc, rfl⟩ := StringS_open hz.at
  have HZ2 := Lib.hid hz.at
  clear hb2 hz HSp HB1
  go_wp2_with fail
  go_at_call 19
  refine (HD2.out _ HB2.out).mono ?_
  rintro e w3 ⟨⟨xs, mk, y, hxl, hxs, hmk, rfl, hy⟩, hb3⟩
  have HB3 : Hid (Below W.heap.size W w3) := HB2.out.trans (hb3.mono HB2.out.size)
  have HZ3 := Lib.hid (HZ2.out.below rfl hb3)
  have HY3 := Lib.hid hy
  have hsum := sumSz_bound 4010 xs hxs
  obtain ⟨J, q, hJ⟩ := join_both xs mk (by have : 4010 * xs.length ≤ 4010 * 5 := Nat.mul_le_mul_left _ hxl; omega)
  have HJ := Lib.hid hJ
  obtain ⟨ya, yc, rfl⟩ := StringS_open hy
  clear hb3 hy HB2 HZ2 hxs hsum hJ HD2
  go_wp2_with fail
  go_at_call 20
  refine (HJ.out _ _ HY3.out).1.mono ?_
  rintro e w4 ⟨rfl, hb4⟩
  have HB4 : Hid (Below W.heap.size W w4) := HB3.out.trans (hb4.mono HB3.out.size)
  have HZ4 := Lib.hid (HZ3.out.below rfl hb4)
  have HY4 := Lib.hid (HY3.out.below rfl hb4)
  clear hb4 HB3 HZ3 HY3
  go_wp2_with fail
  go_at_call 21
  refine (HJ.out _ _ HY4.out).2.mono ?_
  rintro e w5 ⟨rfl, hb5⟩
  have HB5 : Hid (Below W.heap.size W w5) := HB4.out.trans (hb5.mono HB4.out.size)
  have HZ5 := Lib.hid (HZ4.out.below rfl hb5)
  clear hb5 HB4 HZ4 HY4 HJ
  go_wp2_with fail
  go_at_call 22
  refine (HD3.out _ HB5.out).mono ?_
  rintro e w6 ⟨⟨u, u', hu, hu', rfl⟩, hb6⟩
  have HB6 : Hid (Below W.heap.size W w6) := HB5.out.trans (hb6.mono HB5.out.size)
  have HZ6 := Lib.hid (HZ5.out.below rfl hb6)
  clear hb6 HB5 HZ5 HD3 hu hu'
  have hJJ : (J.toList == J.toList) = true := by simp
  have hqq : (q != q) = false := by simp
  have hasy := bytesLess_asymm u.toList u'.toList
  have HI1 := Lib.hid (fun w => implLess_any u u' w)
  have HS1 := Lib.hid (fun w => specLess_any u u' w)
  have HI2 := Lib.hid (fun w => implLess_any u' u w)
  generalize Op.bytesLess u.toList u'.toList = L1 at *
  generalize Op.bytesLess u'.toList u.toList = L2 at *
  have key : L1 = false ∨ (L1 = true ∧ L2 = false) := by cases L1 <;> cases L2 <;> simp_all
  by_cases hsz : sep.size = 1
  · obtain ⟨cc, rfl⟩ := sep_one sep hsz
    obtain ⟨hsp1, hsp2⟩ := sp_yes (s := s) (sep := ⟨#[cc]⟩) ⟨by omega, hsz⟩ (by omega)
    have e0 : ((⟨#[cc]⟩ : ByteArray))[0]'(by show 0 < 1; decide) = cc := rfl
    rw [e0] at hsp1
    rw [hsp1] at HZ6 hzl
    have HJs := Lib.hid (join_split s cc (by omega) _ _ HZ6.out)
    have hss : (s.toList == s.toList) = true := by simp
    have h1 : (((⟨#[cc]⟩ : ByteArray).size : Int) != 1) = false := by rw [hsz]; rfl
    rw [hsp1, hsp2]
    clear hsp1 hsp2 e0 HZ6
    rcases key with rfl | ⟨rfl, rfl⟩
    · go_wp2_with (first | (go_at_call 23; refine (HI1.out _).mono ?_; rintro e w' ⟨rfl, rfl⟩) | (go_at_call 24; refine (HS1.out _).mono ?_; rintro e w' ⟨rfl, rfl⟩))
      go_at_call 20
      refine HJs.out.mono ?_
      rintro e w7 ⟨rfl, hb7⟩
      have HB7 : Hid (Below W.heap.size W w7) := HB6.out.trans (hb7.mono HB6.out.size)
      clear hb7
      go_wp2_with fail
      go_ret
      exact ⟨rfl, HB7.out⟩
    · go_wp2_with (first | (go_at_call 23; first | (refine (HI1.out _).mono ?_; rintro e w' ⟨rfl, rfl⟩) | (refine (HI2.out _).mono ?_; rintro e w' ⟨rfl, rfl⟩)) | (go_at_call 24; refine (HS1.out _).mono ?_; rintro e w' ⟨rfl, rfl⟩))
      go_at_call 20
      refine HJs.out.mono ?_
      rintro e w7 ⟨rfl, hb7⟩
      have HB7 : Hid (Below W.heap.size W w7) := HB6.out.trans (hb7.mono HB6.out.size)
      clear hb7
      go_wp2_with fail
      go_ret
      exact ⟨rfl, HB7.out⟩
  · obtain ⟨hsp1, hsp2⟩ := sp_no (s := s) (sep := sep) (fun h => hsz h.2)
    have h1 : ((sep.size : Int) != 1) = true := by rw [bne_iff_ne]; omega
    rw [hsp1, hsp2]
    clear hsp1 hsp2 hsz HZ6
    rcases key with rfl | ⟨rfl, rfl⟩
    · go_wp2_with (first | (go_at_call 23; refine (HI1.out _).mono ?_; rintro e w' ⟨rfl, rfl⟩) | (go_at_call 24; refine (HS1.out _).mono ?_; rintro e w' ⟨rfl, rfl⟩))
      go_ret
      exact ⟨rfl, HB6.out⟩
    · go_wp2_with (first | (go_at_call 23; first | (refine (HI1.out _).mono ?_; rintro e w' ⟨rfl, rfl⟩) | (refine (HI2.out _).mono ?_; rintro e w' ⟨rfl, rfl⟩)) | (go_at_call 24; refine (HS1.out _).mono ?_; rintro e w' ⟨rfl, rfl⟩))
      go_ret
      exact ⟨rfl, HB6.out⟩
end Go.Proofs.Ytffcgblionlhhaa.fnSplitJoin
