/-
  CONTRACTS of chapter 1's draws: DrawFormatInt gives a number within a million, DrawParseInt and DrawAppendChecksum a text of at most 4000 bytes; nothing that was in memory turns.
-/
import Derived.Test.YtmjopejjbdmniaaDoorCurAmong
import Derived.Test.YtmjopejjbdmniaaDoorNum
import Derived.Lib.ItoaLen
namespace Go.Proofs.YtmjopejjbdmniaaDoor
open Go.RowKit
open Go.Lib
set_option linter.unusedVariables false

def any1L : List ByteArray := [⟨#[]⟩, ⟨#[97]⟩, ⟨#[97, 44, 98]⟩, ⟨#[115, 111, 109, 101, 32, 119, 111, 114, 100, 115]⟩, ⟨#[120, 35, 121]⟩, ⟨#[45, 49, 50]⟩, ⟨#[0, 255]⟩, ⟨#[44, 44]⟩, ⟨#[48]⟩]
theorem any1L_size : ∀ x ∈ any1L, x.size ≤ 20 := by decide

theorem any1_any (b n : Nat) (v : Value) (w : World) (hc : CurAt w b v n) (hv : CodeOff w b v) (hn : n ≤ 900000) :
    Calls Tryd.prog 30 #[.pointer (some ⟨b, 0, none⟩)] w fun e w' => (∃ x : ByteArray, x.size ≤ 20 ∧ e = .returned (.string x)) ∧ CurPost w b (n + 2) v w' := by
  have hlt := curAt_lt hc
  have H := Lib.hid (of_any b n v (.slice (some ⟨w.heap.size, 0, none⟩) 9 9) any1L (w.alloc (.cells (any1L.map Value.string).toArray 9)) (curAt_alloc hc _) (codeOff_grown hv grown_alloc) hn
    (listOff_built w b (any1L.map Value.string) 9 hlt (by decide)) (by decide) (by decide))
  clear hc hv hlt
  go_enter Tryd.func30, Tryd.ntmps30
  go_wp2_with fail
  go_at_call 27
  refine H.out.mono ?_
  rintro e w1 ⟨⟨x, hx, rfl⟩, h1, h2, h3⟩
  have hs := any1L_size x hx
  have hp : CurPost w b (n + 2) v w1 := ⟨h1, h2, grown_trans grown_alloc h3⟩
  clear hx h1 h2 h3
  go_wp2_with fail
  go_ret
  exact ⟨⟨x, hs, rfl⟩, hp⟩

/-- a new cursor over a slice -/
theorem build_cur (a : Option Addr) (n c : Nat) (w : World) : (Instr.build 37 #[(0, .slice a n c)]).run Tryd.prog w = .ok (.agg #[.slice a n c, .int .i64 0, .int .u64 0]) w :=
  run_build w 37 #[(0, .slice a n c)] #[.slice a n c, .int .i64 0, .int .u64 0] (by kernel_rfl)
theorem codeAt_slice {w : World} {v : Value} (h : CodeAt w v) : ∃ a n c, v = .slice a n c := by
  obtain ⟨l, a, c, hv, _⟩ := h; exact ⟨a, _, c, hv⟩

theorem drawFormatInt_any (v : Value) (w : World) (h : CodeAt w v) :
    Calls Tryd.prog 9 #[v] w fun e w' => (∃ z : Int, e = .returned (.int .i64 z) ∧ -1000000 ≤ z ∧ z ≤ 1000000) ∧ Below w.heap.size w w' := by
  obtain ⟨ca, cn, cc, rfl⟩ := codeAt_slice h
  obtain ⟨hc, ho, hb⟩ := cur_new w _ h
  have hbuild := build_cur ca cn cc
  have H1 := Lib.hid (pick_any w.heap.size 0 (.slice ca cn cc) 1000 _ hc ho (by omega) (by omega))
  have HB := Lib.hid hb
  clear hc ho hb h
  go_enter Tryd.func9, Tryd.ntmps9
  go_wp2_with fail
  go_outline
  go_at_call 22
  refine H1.out.mono ?_
  rintro e w1 ⟨⟨r, rfl, r0, r1⟩, hp⟩
  have hr := r1 (by omega)
  clear r1
  have hlt := curAt_lt hp.1
  have H2 := Lib.hid (among_any w.heap.size 2 (.slice ca cn cc) (.slice (some ⟨w1.heap.size, 0, none⟩) 9 9) [0, 1, -1, 10, 999999, -999999, 1000000, -1000000, r - 500] (w1.alloc (.cells ([0, 1, -1, 10, 999999, -999999, 1000000, -1000000, r - 500].map (Value.int .i64)).toArray 3))
    (curAt_alloc hp.1 _) (codeOff_grown hp.2.1 grown_alloc) (by omega) (listOff_built w1 w.heap.size _ 3 hlt (by simp)) (by simp) (by simp)
    (by intro z hz; simp at hz; omega))
  have HP := Lib.hid hp
  clear hp hlt
  go_wp2_with fail
  go_at_call 21
  refine H2.out.mono ?_
  rintro e w2 ⟨⟨x, hx, rfl⟩, h1, h2, h3⟩
  have hz : -1000000 ≤ x ∧ x ≤ 1000000 := by simp at hx; omega
  have hfin : Below w.heap.size w w2 := below_of_curPost HB.out (curPost_trans HP.out ⟨h1, h2, grown_trans grown_alloc h3⟩)
  clear hx h1 h2 h3
  go_wp2_with fail
  go_ret
  exact ⟨⟨x, rfl, hz⟩, hfin⟩

def parse11 : List ByteArray := [⟨#[]⟩, ⟨#[45]⟩, ⟨#[45, 48]⟩, ⟨#[48, 48]⟩, ⟨#[48, 49]⟩, ⟨#[45, 45, 49]⟩, ⟨#[49, 120]⟩, ⟨#[57, 57, 57, 57, 57, 57]⟩, ⟨#[49, 48, 48, 48, 48, 48, 48]⟩, ⟨#[45, 57, 57, 57, 57, 57, 57]⟩, ⟨#[49, 56, 52, 52, 54, 55, 52, 52, 48, 55, 51, 55, 48, 57, 53, 53, 49, 54, 49, 55]⟩]
theorem parse11_size : ∀ x ∈ parse11, x.size ≤ 20 := by decide

theorem drawParseInt_any (v : Value) (w : World) (h : CodeAt w v) :
    Calls Tryd.prog 12 #[v] w fun e w' => (∃ x : ByteArray, x.size ≤ 4000 ∧ e = .returned (.string x)) ∧ Below w.heap.size w w' := by
  obtain ⟨ca, cn, cc, rfl⟩ := codeAt_slice h
  obtain ⟨hc, ho, hb⟩ := cur_new w _ h
  have hbuild := build_cur ca cn cc
  have H1 := Lib.hid (one_any w.heap.size 0 (.slice ca cn cc) 2 _ hc ho (by omega) (by omega))
  have HB := Lib.hid hb
  clear hc ho hb h
  go_enter Tryd.func12, Tryd.ntmps12
  go_wp2_with fail
  go_at_call 26
  refine H1.out.mono ?_
  rintro e w1 ⟨⟨r, rfl⟩, hp⟩
  have hlt := curAt_lt hp.1
  have HP := Lib.hid hp
  cases r
  · have H2 := Lib.hid (pick_any w.heap.size 2 (.slice ca cn cc) 2000 w1 hp.1 hp.2.1 (by omega) (by omega))
    clear hp hlt
    go_wp2_with fail
    go_at_call 22
    refine H2.out.mono ?_
    rintro e w2 ⟨⟨q, rfl, q0, q1⟩, hp2⟩
    have hq := q1 (by omega)
    have hb2 : Below w.heap.size w w2 := below_of_curPost HB.out (curPost_trans HP.out hp2)
    have hsz : (itoa (q - 1000)).length ≤ 21 := Lib.itoa_length_le _ (by omega) (by omega)
    have H3 := Lib.hid (l1Num_any (q - 1000) w2 (by omega) (by omega))
    clear q1 hp2
    go_wp2_with fail
    go_at_call 25
    refine H3.out.mono ?_
    rintro e w3 ⟨rfl, m, rfl⟩
    have hfin : Below w.heap.size w (w2.drewN m) := hb2.trans ((below_drewN' w2 m).mono hb2.size)
    have hsz2 : (ByteArray.mk (itoa (q - 1000)).toArray).size ≤ 4000 := by have : (ByteArray.mk (itoa (q - 1000)).toArray).size = (itoa (q - 1000)).length := by simp [ByteArray.size]
                                                                           omega
    clear hb2 hsz
    generalize ByteArray.mk (itoa (q - 1000)).toArray = x at *
    go_wp2_with fail
    go_ret
    exact ⟨⟨x, hsz2, rfl⟩, hfin⟩
  · have H2 := Lib.hid (of_any w.heap.size 2 (.slice ca cn cc) (.slice (some ⟨w1.heap.size, 0, none⟩) 11 11) parse11 (w1.alloc (.cells (parse11.map Value.string).toArray 9))
      (curAt_alloc hp.1 _) (codeOff_grown hp.2.1 grown_alloc) (by omega) (listOff_built w1 w.heap.size _ 9 hlt (by decide)) (by decide) (by decide))
    clear hp hlt
    go_wp2_with fail
    go_at_call 27
    refine H2.out.mono ?_
    rintro e w2 ⟨⟨x, hx, rfl⟩, h1, h2, h3⟩
    have hs := parse11_size x hx
    have hfin : Below w.heap.size w w2 := below_of_curPost HB.out (curPost_trans HP.out ⟨h1, h2, grown_trans grown_alloc h3⟩)
    clear hx h1 h2 h3
    go_wp2_with fail
    go_ret
    exact ⟨⟨x, by omega, rfl⟩, hfin⟩
end Go.Proofs.YtmjopejjbdmniaaDoor
