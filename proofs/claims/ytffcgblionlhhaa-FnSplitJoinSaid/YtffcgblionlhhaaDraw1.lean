/-
  CONTRACTS of chapter 1's draws: DrawFormatInt gives a number within a million, DrawParseInt and DrawAppendChecksum a text of at most 4000 bytes; nothing that was in memory turns.
-/
import Derived.Test.YtffcgblionlhhaaCurAmong
import Derived.Test.YtffcgblionlhhaaCurOf
import Derived.Test.YtffcgblionlhhaaNum
import Derived.Lib.ItoaLen
namespace Go.Proofs.Ytffcgblionlhhaa
open Go.RowKit
open Go.Lib
set_option linter.unusedVariables false

def any1L : List ByteArray := [⟨#[]⟩, ⟨#[97]⟩, ⟨#[97, 44, 98]⟩, ⟨#[115, 111, 109, 101, 32, 119, 111, 114, 100, 115]⟩, ⟨#[120, 35, 121]⟩, ⟨#[45, 49, 50]⟩, ⟨#[0, 255]⟩, ⟨#[44, 44]⟩, ⟨#[48]⟩]
theorem any1L_size : ∀ x ∈ any1L, x.size ≤ 20 := by decide

theorem any1_any (b n : Nat) (v : Value) (w : World) (hc : CurAt w b v n) (hv : CodeOff w b v) (hn : n ≤ 900000) :
    Calls Try.prog 95 #[.pointer (some ⟨b, 0, none⟩)] w fun e w' => (∃ x : ByteArray, x.size ≤ 20 ∧ e = .returned (.string x)) ∧ CurPost w b (n + 2) v w' := by
  have hlt := curAt_lt hc
  have H := Lib.hid (of_any b n v (.slice (some ⟨w.heap.size, 0, none⟩) 9 9) any1L (w.alloc (.cells (any1L.map Value.string).toArray 9)) (curAt_alloc hc _) (codeOff_grown hv grown_alloc) hn
    (listOff_built w b (any1L.map Value.string) 9 hlt (by decide)) (by decide) (by decide))
  clear hc hv hlt
  go_enter Try.func95, Try.ntmps95
  go_wp2_with fail
  go_at_call 96
  refine H.out.mono ?_
  rintro e w1 ⟨⟨x, hx, rfl⟩, h1, h2, h3⟩
  have hs := any1L_size x hx
  have hp : CurPost w b (n + 2) v w1 := ⟨h1, h2, grown_trans grown_alloc h3⟩
  clear hx h1 h2 h3
  go_wp2_with fail
  go_ret
  exact ⟨⟨x, hs, rfl⟩, hp⟩

/-- a new cursor over a slice -/
theorem build_cur (a : Option Addr) (n c : Nat) (w : World) : (Instr.build 123 #[(0, .slice a n c)]).run Try.prog w = .ok (.agg #[.slice a n c, .int .i64 0, .int .u64 0]) w :=
  run_build w 123 #[(0, .slice a n c)] #[.slice a n c, .int .i64 0, .int .u64 0] (by kernel_rfl)
theorem codeAt_slice {w : World} {v : Value} (h : CodeAt w v) : ∃ a n c, v = .slice a n c := by
  obtain ⟨l, a, c, hv, _⟩ := h; exact ⟨a, _, c, hv⟩

def parse11 : List ByteArray := [⟨#[]⟩, ⟨#[45]⟩, ⟨#[45, 48]⟩, ⟨#[48, 48]⟩, ⟨#[48, 49]⟩, ⟨#[45, 45, 49]⟩, ⟨#[49, 120]⟩, ⟨#[57, 57, 57, 57, 57, 57]⟩, ⟨#[49, 48, 48, 48, 48, 48, 48]⟩, ⟨#[45, 57, 57, 57, 57, 57, 57]⟩, ⟨#[49, 56, 52, 52, 54, 55, 52, 52, 48, 55, 51, 55, 48, 57, 53, 53, 49, 54, 49, 55]⟩]
theorem parse11_size : ∀ x ∈ parse11, x.size ≤ 20 := by decide

end Go.Proofs.Ytffcgblionlhhaa
