/-
  JOINED TEXTS, each under its own namespace line: Text, Str, MarkS.
-/
import Derived.Test.YtehpeifaknbcnaaRows
import Derived.Test.YtehpeifaknbcnaaMk01
import Derived.LoopTactic
import Derived.WalkLawsBesides
import Derived.Lib.Hide
import Derived.BigQuiet
import Derived.OwnWalk
import Derived.Test.YtehpeifaknbcnaaInts
import Derived.Lib.ItoaNum
import Derived.Lib.ItoaLen
import Derived.Lib.IndexMore
import Derived.Laws.Concat
import Derived.Laws.Strings
import Derived.Laws.IdiomStrings
namespace Go.Proofs.Ytehpeifaknbcnaa
open Go.RowKit
set_option linter.unusedVariables false

theorem infoString : (Try.prog.info? 9).map (fun i => (i.zero, i.size, i.bytes)) = some (some (.string ⟨#[]⟩), 1, 16) := by kernel_rfl

def sumSz (xs : List ByteArray) : Nat := (xs.map (·.size)).sum
theorem sumSz_take (xs : List ByteArray) (k : Nat) (h : k < xs.length) : sumSz (xs.take (k + 1)) = sumSz (xs.take k) + (xs[k]'h).size := by
  rw [List.take_succ_eq_append_getElem h]; simp only [sumSz, List.map_append, List.sum_append, List.map_cons, List.map_nil, List.sum_cons, List.sum_nil]; omega
theorem str_at {w : World} {a : Option Addr} {xs : List ByteArray} (h : ∀ k u, (xs.map Value.string)[k]? = some u → ∃ b off, a = some ⟨b, off, none⟩ ∧ b < w.heap.size ∧ w.cell? ⟨b, off + k, none⟩ = some u) (k : Nat) (hk : k < xs.length) :
    ∃ b off, a = some ⟨b, off, none⟩ ∧ b < w.heap.size ∧ w.cell? ⟨b, off + k, none⟩ = some (.string (xs[k]'hk)) := h k _ (by simp [List.getElem?_eq_getElem hk])

set_option maxHeartbeats 1000000 in
theorem szStringS_any (v : Value) (xs : List ByteArray) (left : Int) (w : World) (hr : RowAt w v (xs.map .string)) (hx : ∀ x ∈ xs, x.size ≤ maxLen) (h0 : 0 ≤ left) (h1 : left ≤ 1048576) :
    Calls Try.prog 46 #[v, .int .i64 left] w fun e w' => (∃ r : Int, e = .returned (.int .i64 r) ∧ (r = -1 ∨ (0 ≤ r ∧ (xs.length : Int) + sumSz xs + r = left))) ∧ w = w' := by
  obtain ⟨a, c, rfl, hc, hm, hcell⟩ := hr
  rw [List.length_map] at hc ⊢
  unfold maxLen at hm hx
  have HC := Lib.hid hcell
  clear hcell
  by_cases hneg : left - (xs.length : Int) < 0
  · go_enter Try.func46, Try.ntmps46
    go_wp2
    go_ret
    exact ⟨⟨-1, rfl, .inl rfl⟩, rfl⟩
  · go_enter Try.func46, Try.ntmps46
    go_wp2
    go_loop [1, 5] (fun l i => ∃ k : Nat, k ≤ xs.length ∧ i = .int .i64 k ∧ ∃ r : Int, l = .int .i64 r ∧ 0 ≤ r ∧ Hid ((xs.length : Int) + sumSz (xs.take k) + r = left) ∧ r ≤ 1048576) (fun _ i => xs.length - (RowKit.intOf i).toNat)
    case atStart => exact ⟨0, Nat.zero_le _, rfl, _, rfl, by omega, by show _ = _; simp [sumSz]; omega, by omega⟩
    case round =>
      obtain ⟨k, hk, rfl, r, rfl, hr0, HR, hr1⟩ := hrel
      by_cases hlt : k < xs.length
      · obtain ⟨b, off, rfl, _, hcx⟩ := str_at HC.out k hlt
        have hsz := hx _ (List.getElem_mem hlt)
        have HS := Lib.hid (sumSz_take xs k hlt)
        generalize xs[k] = y at *
        by_cases hn : r - (y.size : Int) < 0
        · go_wp2
          go_ret
          exact ⟨⟨-1, rfl, .inl rfl⟩, rfl⟩
        · go_wp2
          go_round
          case rel => exact ⟨k + 1, by omega, by go_num, _, rfl, by omega, by have := HR.out; have := HS.out; show _ = _; omega, by omega⟩
          case measure => simp [RowKit.intOf]; omega
      · go_wp2
        go_ret
        exact ⟨⟨r, rfl, .inr ⟨hr0, by have := HR.out; rw [List.take_of_length_le (by omega)] at this; exact this⟩⟩, rfl⟩

set_option maxHeartbeats 1000000 in
theorem toStringS_any (v : Value) (xs : List ByteArray) (w : World) (hr : RowAt w v (xs.map .string)) (hn : xs.length ≤ 1048576) :
    Calls Try.prog 49 #[v] w fun e w' => ∃ v', e = .returned v' ∧ w'.ownsRow w.heap.size 9 1 v' xs.length (xs.map .string) ∧ Below w.heap.size w w' := by
  obtain ⟨a, c, rfl, hc, hm, hcell⟩ := hr
  rw [List.length_map] at hc ⊢
  have HC := Lib.hid hcell
  clear hcell
  obtain ⟨i0, hi, hz0, hz1, hz2⟩ := info_parts infoString
  go_enter Try.func49, Try.ntmps49
  go_wp2_with (at_make; refine wpList_make_full _ rfl _ _ 22 rfl w.heap.size 9 i0 (.string ⟨#[]⟩) 1 Try.underlying22 hi hz0 hz1 .i64 .i64 (xs.length : Int) (xs.length : Int) xs.length rfl rfl rfl rfl ?c1 ?c2 ?c3 ?_)
  case c1 => rw [hz2]; omega
  case c2 => unfold maxLen; omega
  case c3 => exact Nat.le_refl _
  intro w1 hown hgrow
  have hbel : Below w.heap.size w w1 := (Below.refl _ _).grown hgrow (Nat.le_refl _) (fun k hk => by cases hk)
  have hzl := own_len hown
  generalize Array.toList (madeCells _ _) = z0 at *
  clear hgrow
  go_wp2
  go_loopw [4] (fun i wr => ∃ k : Nat, k ≤ xs.length ∧ i = .int .i64 k ∧ (∃ zs : List Value, zs.length = xs.length ∧ Hid (zs.take k = (xs.map Value.string).take k) ∧ wr.ownsRow w.heap.size 9 1 (.slice (some ⟨w.heap.size, 0, none⟩) xs.length xs.length) xs.length zs) ∧ Below w.heap.size w wr)
    (fun i _ => xs.length - (RowKit.intOf i).toNat)
  case atStart => exact ⟨0, Nat.zero_le _, rfl, ⟨z0, hzl, rfl, hown⟩, hbel⟩
  case round =>
    obtain ⟨k, hk, rfl, ⟨zs, hzs, HT, hown⟩, hbel⟩ := hrel
    by_cases hlt : k < xs.length
    · obtain ⟨b, off, rfl, hbl, hcx0⟩ := str_at HC.out k hlt
      have hcx : wr.cell? ⟨b, off + k, none⟩ = some (.string xs[k]) := by rw [hbel.cell (p := ⟨b, off + k, none⟩) hbl]; exact hcx0
      have hoc : wr.cell? ⟨w.heap.size, k, none⟩ = some (zs[k]'(by omega)) := by rw [hown.cellAt k (by omega)]; exact List.getElem?_eq_getElem _
      have hof := hown.frozenAt k
      have hown2 := (hown.stored k (.string xs[k])).1
      have HT2 : Hid ((zs.set k (.string xs[k])).take (k + 1) = (xs.map Value.string).take (k + 1)) := by
        have := take_set_succ zs (xs.map Value.string) k (by omega) (by simpa using hlt) HT.out
        show _ = _
        simpa using this
      clear hcx0 hown
      generalize zs[k] = old at *
      go_wp2
      go_roundw
      case rel => exact ⟨k + 1, by omega, by go_num, ⟨_, by simpa using hzs, HT2, hown2⟩, own_stored_below hbel (Nat.le_refl _)⟩
      case measure => simp [RowKit.intOf]; omega
    · go_wp2
      go_ret
      refine ⟨_, rfl, ?_, hbel⟩
      have := HT.out
      rw [List.take_of_length_le (by omega), List.take_of_length_le (by simp; omega)] at this
      rw [← this]; exact hown

set_option maxHeartbeats 1000000 in
theorem eqStringS_same (v v' : Value) (xs : List ByteArray) (w : World) (hr : RowAt w v (xs.map .string)) (hr' : RowAt w v' (xs.map .string)) (hn : xs.length ≤ 1048576) :
    Calls Try.prog 54 #[v, v'] w fun e w' => e = .returned (.bool true) ∧ ∃ m, w' = w.drewN m := by
  obtain ⟨a, c, rfl, hc, hm, hcell⟩ := hr
  obtain ⟨a', c', rfl, hc', hm', hcell'⟩ := hr'
  rw [List.length_map] at *
  have HC := Lib.hid hcell
  have HC' := Lib.hid hcell'
  clear hcell hcell'
  go_enter Try.func54, Try.ntmps54
  go_wp2
  go_loopw [5] (fun i wr => ∃ k : Nat, k ≤ xs.length ∧ i = .int .i64 k ∧ ∃ m, wr = w.drewN m)
    (fun i _ => xs.length - (RowKit.intOf i).toNat)
  case atStart => exact ⟨0, Nat.zero_le _, rfl, 0, rfl⟩
  case round =>
    obtain ⟨k, hk, rfl, m, rfl⟩ := hrel
    by_cases hlt : k < xs.length
    · obtain ⟨b, off, rfl, _, hcx⟩ := str_at HC.out k hlt
      obtain ⟨b', off', rfl, _, hcx'⟩ := str_at HC'.out k hlt
      generalize xs[k] = y at *
      have hk1 : (k : Int) < (xs.length : Int) := by omega
      have hyy : (y.toList == y.toList) = true := by simp
      go_wp2
      go_quiet (fail)
      go_wp2
      go_roundw
      case rel => exact ⟨k + 1, by omega, by go_num, _, rfl⟩
      case measure => simp [RowKit.intOf]; omega
    · go_wp2
      go_ret
      exact ⟨rfl, _, rfl⟩
end Go.Proofs.Ytehpeifaknbcnaa

namespace Go.Proofs.Ytehpeifaknbcnaa
open Go.RowKit Go.Lib

theorem mk_list (s : ByteArray) : (⟨s.data.toList.toArray⟩ : ByteArray) = s := by cases s; simp
theorem eq_mk (s : ByteArray) : s = ⟨s.data.toList.toArray⟩ := (mk_list s).symm
theorem length_list (s : ByteArray) : s.data.toList.length = s.size := by rw [Array.length_toList]; rfl
theorem str_add {P : Program} (W : World) (a b : ByteArray) (x y : List UInt8) (ha : a.data.toList = x) (hb : b.data.toList = y) (h : x.length + y.length ≤ 9223372036854775807) :
    (Op.stringOp .add a b).run P W = .ok (.string ⟨(x ++ y).toArray⟩) W := by
  subst ha; subst hb
  rw [run_string_add_sum W _ _ (by rw [length_list, length_list] at h; omega)]
  conv => lhs; rw [eq_mk a, eq_mk b, ByteArray.mk_append_mk]

end Go.Proofs.Ytehpeifaknbcnaa

namespace Go.Proofs.Ytehpeifaknbcnaa
open Go.RowKit
set_option linter.unusedVariables false

def digsF : Nat → Nat → List UInt8
  | 0, _ => []
  | f + 1, k => if k = 0 then [] else digsF f (k / 10) ++ [UInt8.ofNat (48 + k % 10)]
def digs (k : Nat) : List UInt8 := digsF k k
theorem digsF_more : ∀ (f g k : Nat), k ≤ f → k ≤ g → digsF f k = digsF g k
  | 0, g, k, h, _ => by
    have : k = 0 := by omega
    subst this
    cases g <;> simp [digsF]
  | f + 1, 0, k, _, h => by
    have : k = 0 := by omega
    subst this
    simp [digsF]
  | f + 1, g + 1, k, h1, h2 => by
    simp only [digsF]
    split
    · rfl
    · rw [digsF_more f g (k / 10) (by omega) (by omega)]
theorem digs_zero : digs 0 = [] := rfl
theorem digs_step (k : Nat) (h : 0 < k) : digs k = digs (k / 10) ++ [UInt8.ofNat (48 + k % 10)] := by
  obtain ⟨j, rfl⟩ : ∃ j, k = j + 1 := ⟨k - 1, by omega⟩
  unfold digs
  rw [show digsF (j + 1) (j + 1) = digsF j ((j + 1) / 10) ++ [UInt8.ofNat (48 + (j + 1) % 10)] by simp [digsF]]
  rw [digsF_more j ((j + 1) / 10) ((j + 1) / 10) (by omega) (by omega)]
theorem digs_len : ∀ (k : Nat), (digs k).length ≤ k := fun k => by
  induction k using Nat.strongRecOn with
  | _ k ih =>
    by_cases h : 0 < k
    · rw [digs_step k h]; have := ih (k / 10) (by omega); simp; omega
    · have : k = 0 := by omega
      subst this; simp [digs_zero]

def markL (k : Nat) : List UInt8 := [109] ++ digs k

set_option maxRecDepth 100000 in
set_option maxHeartbeats 1000000 in
theorem markText_any (k : Nat) (w : World) (hk0 : 0 < k) (hk : k ≤ 1073741824) :
    Calls Try.prog 127 #[.int .i64 k] w fun e w' => e = .returned (.string ⟨(markL k).toArray⟩) ∧ Below w.heap.size w w' := by
  have hdl := Lib.hid (digs_len k)
  go_enter Try.func127, Try.ntmps127
  go_wp2
  go_loopw [0, 3] (fun q o wr => ∃ j : Nat, q = .int .i64 j ∧ j ≤ k ∧ (∃ l : List UInt8, o = .string ⟨l.toArray⟩ ∧ Hid (digs j ++ l = digs k)) ∧ Below w.heap.size w wr)
    (fun q _ _ => (RowKit.intOf q).toNat)
  case atStart => exact ⟨k, rfl, Nat.le_refl _, ⟨[], rfl, by show _ = _; simp⟩, Below.refl _ _⟩
  case round =>
    obtain ⟨j, rfl, hj, ⟨l, rfl, HL⟩, hbel⟩ := hrel
    by_cases h0 : 0 < j
    · have h0i : (0 : Int) < (j : Int) := by omega
      have HL2 : Hid (digs (j / 10) ++ (UInt8.ofNat (48 + j % 10) :: l) = digs k) := by
        have := HL.out; rw [digs_step j h0] at this; show _ = _; rw [← this]; simp
      have hlen : l.length ≤ 1073741824 := by have h1 := congrArg List.length HL.out; have h2 := hdl.out; simp at h1; omega
      have hd : ((UInt8.ofNat (48 + j % 10)).toNat : Int) = 48 + (j : Int) % 10 := by
        rw [UInt8.toNat_ofNat']; omega
      have hconv : (convert 153 9 (.slice (some ⟨wr.heap.size, 0, none⟩) 1 1)).run Try.prog (wr.alloc (.cells #[.int .u8 (48 + (j : Int) % 10)] 5)) = .ok (.string ⟨[UInt8.ofNat (48 + j % 10)].toArray⟩) (wr.alloc (.cells #[.int .u8 (48 + (j : Int) % 10)] 5)) :=
        run_convert_bytes_back _ 153 9 5 ⟨wr.heap.size, 0, none⟩ 1 [UInt8.ofNat (48 + j % 10)] Try.underlying153 Try.underlying5 Try.underlying9 (fun q hq => by
          have : q = 0 := by simp at hq; omega
          subst this
          rw [show ([UInt8.ofNat (48 + j % 10)][0]'hq) = UInt8.ofNat (48 + j % 10) from rfl, hd]
          simp [Addr.add])
      have hadd : ∀ W, (Op.stringOp .add ⟨[UInt8.ofNat (48 + j % 10)].toArray⟩ ⟨l.toArray⟩).run Try.prog W = .ok (.string ⟨(UInt8.ofNat (48 + j % 10) :: l).toArray⟩) W := fun W =>
        str_add W _ _ [UInt8.ofNat (48 + j % 10)] l (by simp) (by simp) (by simp; omega)
      have hbel2 : Below w.heap.size w (wr.alloc (.cells #[.int .u8 (48 + (j : Int) % 10)] 5)) := hbel.alloc hbel.size _
      have HB2 := Lib.hid hbel2
      have HHd := Lib.hid hd
      clear hd hlen hbel2 hbel
      generalize UInt8.ofNat (48 + j % 10) = d at *
      go_wp2_with fail
      go_roundw
      case rel => exact ⟨j / 10, by go_num, by omega, ⟨_, rfl, HL2⟩, HB2.out⟩
      case measure => simp [RowKit.intOf]; omega
    · have : j = 0 := by omega
      subst this
      have hl : l = digs k := by have := HL.out; rw [digs_zero] at this; simpa using this
      have HLe := Lib.hid hdl.out
      have hadd : ∀ W, (Op.stringOp .add ⟨#[109]⟩ ⟨l.toArray⟩).run Try.prog W = .ok (.string ⟨(markL k).toArray⟩) W := fun W => by
        rw [hl]; exact str_add W _ _ [109] (digs k) (by simp) (by simp) (by have := hdl.out; simp; omega)
      clear hl hdl
      go_wp2_with fail
      go_ret
      exact ⟨rfl, hbel⟩
end Go.Proofs.Ytehpeifaknbcnaa
