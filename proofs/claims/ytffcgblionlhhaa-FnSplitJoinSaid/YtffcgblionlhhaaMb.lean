/-
  JOINED TEXTS, each under its own namespace line: MarkS, MarkStr, StrsX.
-/
import Derived.Test.YtffcgblionlhhaaMa
import Derived.Test.YtffcgblionlhhaaStr
import Derived.Laws.Strings
import Derived.Laws.IdiomStrings
import Derived.Deep.RegionHeld3
import Derived.BigQuiet
import Derived.Laws.Entries
namespace Go.Proofs.Ytffcgblionlhhaa
open Go.RowKit
set_option linter.unusedVariables false

/-- the digits of a number, none for 0 -/
def digsF : Nat → Nat → List UInt8
  | 0, _ => []
  | f + 1, k => if k = 0 then [] else digsF f (k / 10) ++ [UInt8.ofNat (48 + k % 10)]
def digs (k : Nat) : List UInt8 := digsF k k
theorem digsF_more : ∀ (f g k : Nat), k ≤ f → k ≤ g → digsF f k = digsF g k
  | 0, g, k, h, _ => by
    have : k = 0 := by omega
    subst this
    cases g <;> simp [digsF]
  | f + 1, 0, k, _, h => by
    have : k = 0 := by omega
    subst this
    simp [digsF]
  | f + 1, g + 1, k, h1, h2 => by
    simp only [digsF]
    split
    · rfl
    · rw [digsF_more f g (k / 10) (by omega) (by omega)]
theorem digs_zero : digs 0 = [] := rfl
theorem digs_step (k : Nat) (h : 0 < k) : digs k = digs (k / 10) ++ [UInt8.ofNat (48 + k % 10)] := by
  obtain ⟨j, rfl⟩ : ∃ j, k = j + 1 := ⟨k - 1, by omega⟩
  unfold digs
  rw [show digsF (j + 1) (j + 1) = digsF j ((j + 1) / 10) ++ [UInt8.ofNat (48 + (j + 1) % 10)] by simp [digsF]]
  rw [digsF_more j ((j + 1) / 10) ((j + 1) / 10) (by omega) (by omega)]
theorem digs_len : ∀ (k : Nat), (digs k).length ≤ k := fun k => by
  induction k using Nat.strongRecOn with
  | _ k ih =>
    by_cases h : 0 < k
    · rw [digs_step k h]; have := ih (k / 10) (by omega); simp; omega
    · have : k = 0 := by omega
      subst this; simp [digs_zero]
/-- the text that marks k -/
def markL (k : Nat) : List UInt8 := [109] ++ digs k

set_option maxRecDepth 100000 in
set_option maxHeartbeats 1000000 in
theorem markText_any (k : Nat) (w : World) (hk0 : 0 < k) (hk : k ≤ 1073741824) :
    Calls Try.prog 193 #[.int .i64 k] w fun e w' => e = .returned (.string ⟨(markL k).toArray⟩) ∧ Below w.heap.size w w' := by
  have hdl := Lib.hid (digs_len k)
  go_enter Try.func193, Try.ntmps193
  go_wp2
  go_loopw [0, 3] (fun q o wr => ∃ j : Nat, q = .int .i64 j ∧ j ≤ k ∧ (∃ l : List UInt8, o = .string ⟨l.toArray⟩ ∧ Hid (digs j ++ l = digs k)) ∧ Below w.heap.size w wr)
    (fun q _ _ => (RowKit.intOf q).toNat)
  case atStart => exact ⟨k, rfl, Nat.le_refl _, ⟨[], rfl, by show _ = _; simp⟩, Below.refl _ _⟩
  case round =>
    obtain ⟨j, rfl, hj, ⟨l, rfl, HL⟩, hbel⟩ := hrel
    by_cases h0 : 0 < j
    · have h0i : (0 : Int) < (j : Int) := by omega
      have HL2 : Hid (digs (j / 10) ++ (UInt8.ofNat (48 + j % 10) :: l) = digs k) := by
        have := HL.out; rw [digs_step j h0] at this; show _ = _; rw [← this]; simp
      have hlen : l.length ≤ 1073741824 := by have h1 := congrArg List.length HL.out; have h2 := hdl.out; simp at h1; omega
      have hd : ((UInt8.ofNat (48 + j % 10)).toNat : Int) = 48 + (j : Int) % 10 := by
        rw [UInt8.toNat_ofNat']; omega
      have hconv : (convert 22 9 (.slice (some ⟨wr.heap.size, 0, none⟩) 1 1)).run Try.prog (wr.alloc (.cells #[.int .u8 (48 + (j : Int) % 10)] 5)) = .ok (.string ⟨[UInt8.ofNat (48 + j % 10)].toArray⟩) (wr.alloc (.cells #[.int .u8 (48 + (j : Int) % 10)] 5)) :=
        run_convert_bytes_back _ 22 9 5 ⟨wr.heap.size, 0, none⟩ 1 [UInt8.ofNat (48 + j % 10)] Try.underlying22 Try.underlying5 Try.underlying9 (fun q hq => by
          have : q = 0 := by simp at hq; omega
          subst this
          rw [show ([UInt8.ofNat (48 + j % 10)][0]'hq) = UInt8.ofNat (48 + j % 10) from rfl, hd]
          simp [Addr.add])
      have hadd : ∀ W, (Op.stringOp .add ⟨[UInt8.ofNat (48 + j % 10)].toArray⟩ ⟨l.toArray⟩).run Try.prog W = .ok (.string ⟨(UInt8.ofNat (48 + j % 10) :: l).toArray⟩) W := fun W =>
        str_add W _ _ [UInt8.ofNat (48 + j % 10)] l (by simp) (by simp) (by simp; omega)
      have hbel2 : Below w.heap.size w (wr.alloc (.cells #[.int .u8 (48 + (j : Int) % 10)] 5)) := hbel.alloc hbel.size _
      have HB2 := Lib.hid hbel2
      have HHd := Lib.hid hd
      clear hd hlen hbel2 hbel
      generalize UInt8.ofNat (48 + j % 10) = d at *
      go_wp2_with fail
      go_roundw
      case rel => exact ⟨j / 10, by go_num, by omega, ⟨_, rfl, HL2⟩, HB2.out⟩
      case measure => simp [RowKit.intOf]; omega
    · have : j = 0 := by omega
      subst this
      have hl : l = digs k := by have := HL.out; rw [digs_zero] at this; simpa using this
      have HLe := Lib.hid hdl.out
      have hadd : ∀ W, (Op.stringOp .add ⟨#[109]⟩ ⟨l.toArray⟩).run Try.prog W = .ok (.string ⟨(markL k).toArray⟩) W := fun W => by
        rw [hl]; exact str_add W _ _ [109] (digs k) (by simp) (by simp) (by have := hdl.out; simp; omega)
      clear hl hdl
      go_wp2_with fail
      go_ret
      exact ⟨rfl, hbel⟩
end Go.Proofs.Ytffcgblionlhhaa

namespace Go.Proofs.Ytffcgblionlhhaa
open Go.RowKit
set_option linter.unusedVariables false

/-- the texts that mark n places from k on -/
def marksL (k : Nat) : Nat → List ByteArray
  | 0 => []
  | n + 1 => marksL k n ++ [⟨(markL (k + n)).toArray⟩]
theorem marksL_len (k : Nat) : ∀ n, (marksL k n).length = n
  | 0 => rfl
  | n + 1 => by simp [marksL, marksL_len k n]
theorem marksL_get (k : Nat) : ∀ n j (h : j < (marksL k n).length), (marksL k n)[j] = ⟨(markL (k + j)).toArray⟩
  | 0, j, h => by simp [marksL] at h
  | n + 1, j, h => by
    simp only [marksL]
    rw [List.getElem_append]
    have hl := marksL_len k n
    split
    · exact marksL_get k n j (by assumption)
    · have : j = n := by simp [marksL, hl] at h; omega
      subst this
      simp
set_option maxRecDepth 100000 in
set_option maxHeartbeats 1000000 in
theorem markStringS_own (v : Value) (xs : List ByteArray) (k : Nat) (B : Nat) (w : World) (hr : w.ownsRow B 9 1 v xs.length (strs xs)) (hn : xs.length ≤ 1048576) (hk0 : 0 < k) (hk : k ≤ 4194304) :
    Calls Try.prog 91 #[v, .int .i64 k] w fun e w' => e = .returned (.int .i64 ((k + xs.length : Nat) : Int)) ∧ w'.ownsRow B 9 1 v xs.length (strs (marksL k xs.length)) ∧ w.grownBy w' v.ownBlock := by
  obtain ⟨a, c, rfl⟩ := own_shape hr
  have HO := Lib.hid hr
  clear hr
  have HMk := Lib.hid (fun W j (h : j ≤ 1048576) => markText_any (k + j) W (by omega) (by omega))
  go_enter Try.func91, Try.ntmps91
  go_wp2
  go_loopw [1, 5] (fun q i wr => ∃ j : Nat, j ≤ xs.length ∧ i = .int .i64 j ∧ q = .int .i64 ((k + j : Nat) : Int) ∧ (∃ zs : List Value, zs.length = xs.length ∧ Hid (zs.take j = (strs (marksL k xs.length)).take j) ∧ Hid (wr.ownsRow B 9 1 (.slice a xs.length c) xs.length zs)) ∧ Hid (w.grownBy wr (Value.ownBlock (.slice a xs.length c))))
    (fun _ i _ => xs.length - (RowKit.intOf i).toNat)
  case atStart => exact ⟨0, Nat.zero_le _, rfl, by simp, ⟨_, strs_len xs, rfl, HO.out⟩, World.grownBy.refl _ _⟩
  case round =>
    obtain ⟨j, hj, rfl, rfl, ⟨zs, hzs, HT, HOwn⟩, HG⟩ := hrel
    by_cases hlt : j < xs.length
    · obtain ⟨_, h2⟩ := HOwn.out
      rcases h2 with ⟨hv, h0⟩ | ⟨g, cap, cur, hv, hg, hblk, h3, h4, h5, h6⟩
      · omega
      simp at hv
      obtain ⟨rfl, rfl⟩ := hv
      have hlen : g < wr.heap.size := (Array.getElem?_eq_some_iff.1 hblk).1
      clear hblk h4 h5 h6
      go_wp2_with fail
      go_at_call 193
      refine (HMk.out _ j (by omega)).mono ?_
      rintro e w1 ⟨rfl, hb1⟩
      have hown := own_later HOwn.out hb1
      have hoc : w1.cell? ⟨g, j, none⟩ = some (zs[j]'(by omega)) := by rw [hown.cellAt j (by omega)]; exact List.getElem?_eq_getElem _
      have hof := hown.frozenAt j
      have HOwn2 := Lib.hid (hown.stored j (.string ⟨(markL (k + j)).toArray⟩)).1
      have HT2 : Hid ((zs.set j (.string ⟨(markL (k + j)).toArray⟩)).take (j + 1) = (strs (marksL k xs.length)).take (j + 1)) := by
        have hl2 : j < (strs (marksL k xs.length)).length := by rw [strs_len, marksL_len]; exact hlt
        have := take_set_succ zs (strs (marksL k xs.length)) j (by omega) hl2 HT.out
        have e : (strs (marksL k xs.length))[j]'hl2 = .string ⟨(markL (k + j)).toArray⟩ := by simp only [strs, List.getElem_map]; rw [marksL_get]
        rw [e] at this; exact this
      have HG2 : Hid (w.grownBy (w1.setCell ⟨g, j, none⟩ (.string ⟨(markL (k + j)).toArray⟩)) (some g)) :=
        ⟨hb1.os.trans HG.out.os, hb1.tape.trans HG.out.tape, hb1.output.trans HG.out.output, by have := HG.out.size; have := hb1.size; simp [World.setCell]; omega, fun q hq hne => by
          rw [Below.heap_setCell _ _ _ _ (fun e => hne (by rw [e])), hb1.block q (Nat.lt_of_lt_of_le hq HG.out.size)]; exact HG.out.block q hq hne⟩
      clear hown hb1 HOwn HG HT
      generalize zs[j] = old at *
      generalize ByteArray.mk (markL (k + j)).toArray = tx at *
      go_wp2_with fail
      go_roundw
      case rel => exact ⟨j + 1, by omega, by go_num, by go_num, ⟨_, by simpa using hzs, HT2, HOwn2⟩, HG2⟩
      case measure => simp [RowKit.intOf]; omega
    · have hjl : j = xs.length := by omega
      subst hjl
      go_wp2_with fail
      go_ret
      refine ⟨rfl, ?_, HG.out⟩
      have := HT.out
      rw [List.take_of_length_le (by omega), List.take_of_length_le (by rw [strs_len, marksL_len]; omega)] at this
      rw [← this]; exact HOwn.out

theorem keepM {W w w' : World} {p : Addr} {x : Value} (hb : Below w.heap.size w w') (h : w.cell? p = some x ∧ Below W.heap.size W w) : w'.cell? p = some x ∧ Below W.heap.size W w' :=
  ⟨bkeep hb h.1, h.2.trans (hb.mono h.2.size)⟩

set_option maxHeartbeats 1000000 in
theorem heldStringS_own (v : Value) (k n : Nat) (w : World) (hr : RowAt w v (strs (marksL k n))) (hn : n ≤ 1048576) (hk0 : 0 < k) (hk : k ≤ 4194304) :
    Calls Try.prog 92 #[v, .int .i64 k] w fun e w' => e = .returned (.int .i64 ((k + n : Nat) : Int)) ∧ Below w.heap.size w w' := by
  obtain ⟨a, c, rfl, hc, hm, HC⟩ := strs_open hr
  rw [marksL_len] at *
  clear hr
  have HMk := Lib.hid (fun W j (h : j ≤ 1048576) => markText_any (k + j) W (by omega) (by omega))
  go_enter Try.func92, Try.ntmps92
  go_wp2
  go_loopw [1, 5] (fun q i wr => ∃ j : Nat, j ≤ n ∧ i = .int .i64 j ∧ q = .int .i64 ((k + j : Nat) : Int) ∧ Hid (Below w.heap.size w wr)) (fun _ i _ => n - (RowKit.intOf i).toNat)
  case atStart => exact ⟨0, Nat.zero_le _, rfl, by simp, Below.refl _ _⟩
  case round =>
    obtain ⟨j, hj, rfl, rfl, HB⟩ := hrel
    by_cases hlt : j < n
    · obtain ⟨b, off, rfl, hbl, hcx0⟩ := HC.out j (by rw [marksL_len]; exact hlt)
      rw [marksL_get] at hcx0
      have hcx : wr.cell? ⟨b, off + j, none⟩ = some (.string ⟨(markL (k + j)).toArray⟩) := by rw [HB.out.cell (p := ⟨b, off + j, none⟩) hbl]; exact hcx0
      have HMj := Lib.hid (fun W => HMk.out W j (by omega))
      have hne : (ByteArray.toList ⟨(markL (k + j)).toArray⟩ != ByteArray.toList ⟨(markL (k + j)).toArray⟩) = false := by simp
      have hk1 : (j : Int) < (n : Int) := by omega
      clear hcx0
      generalize ByteArray.mk (markL (k + j)).toArray = tx at *
      go_wp2_with fail
      go_region_held3 (fun w' => w'.cell? ⟨b, off + j, none⟩ = some (.string tx) ∧ Below wr.heap.size wr w')
        (first | (exact ⟨hcx, (Below.refl _ _).drew⟩) | (exact keepM hb (by assumption)))
        ((go_at_call 193; refine (HMj.out _).mono ?_; rintro e w' ⟨rfl, hb⟩))
      obtain ⟨_, qb⟩ := (by assumption : _ ∧ Below wr.heap.size wr w')
      go_wp2_with fail
      go_roundw
      case rel => exact ⟨j + 1, by omega, by go_num, by go_num, HB.out.trans (qb.mono HB.out.size)⟩
      case measure => simp [RowKit.intOf]; omega
    · have hjl : j = n := by omega
      subst hjl
      go_wp2
      go_ret
      exact ⟨rfl, HB.out⟩
end Go.Proofs.Ytffcgblionlhhaa

namespace Go.Proofs.Ytffcgblionlhhaa
open Go.RowKit
set_option linter.unusedVariables false

def StrsSmall (xs : List ByteArray) : Prop := xs.length ≤ 1048576
/-- a row of strings of the call's own, in a block from l to u -/
def StrsIn (l u : Nat) (w : World) (v : Value) (xs : List ByteArray) : Prop := w.ownsRow l 9 1 v xs.length (strs xs) ∧ ∀ g, v.ownBlock = some g → g < u
theorem StrsIn.at {l u : Nat} {w : World} {v : Value} {xs : List ByteArray} (h : StrsIn l u w v xs) : RowAt w v (strs xs) := rowAt_own h.1
theorem StrsIn.lo {l u : Nat} {w : World} {v : Value} {xs : List ByteArray} (h : StrsIn l u w v xs) (g : Nat) (hg : v.ownBlock = some g) : l ≤ g := (h.1.lt g hg).1
theorem StrsIn.later {l u : Nat} {w w' : World} {v : Value} {xs : List ByteArray} (h : StrsIn l u w v xs) (hb : Below w.heap.size w w') : StrsIn l u w' v xs := ⟨own_later h.1 hb, h.2⟩
theorem StrsIn.out {l u lo hi : Nat} {w w' : World} {v : Value} {xs : List ByteArray} (h : StrsIn l u w v xs) (ho : Out lo hi w w') (hs : u ≤ lo ∨ hi ≤ l) : StrsIn l u w' v xs :=
  ⟨own_out h.1 ho (fun g hg => by have := h.2 g hg; have := h.lo g hg; omega), h.2⟩
theorem StrsIn.mk {l : Nat} {w : World} {v : Value} {xs : List ByteArray} (h : w.ownsRow l 9 1 v xs.length (strs xs)) : StrsIn l w.heap.size w v xs := ⟨h, fun g hg => (h.lt g hg).2⟩
theorem StrsIn.base {l l' u u' : Nat} {w : World} {v : Value} {xs : List ByteArray} (h : StrsIn l u w v xs) (hl : l' ≤ l) (hu : u ≤ u') : StrsIn l' u' w v xs := ⟨own_base h.1 hl, fun g hg => Nat.lt_of_lt_of_le (h.2 g hg) hu⟩
theorem StringS_open {w : World} {v : Value} {xs : List ByteArray} (h : RowAt w v (strs xs)) : ∃ a c, v = .slice a xs.length c := by
  obtain ⟨a, c, hv, _⟩ := h
  rw [strs_len] at hv
  exact ⟨a, c, hv⟩

theorem eqStringS_x (v v' : Value) (xs : List ByteArray) (w : World) (hr : RowAt w v (strs xs)) (hr' : RowAt w v' (strs xs)) (hs : StrsSmall xs) :
    Calls Try.prog 90 #[v, v'] w fun e w' => e = .returned (.bool true) ∧ Below w.heap.size w w' :=
  (eqStringS_same v v' xs w hr hr' hs).mono fun e w' ⟨he, m, hm⟩ => ⟨he, Dr.below ⟨m, hm⟩⟩

/-- strings that hold marks from k on -/
def StrsMk (k : Int) (w : World) (v : Value) (xs : List ByteArray) : Prop := RowAt w v (strs (marksL k.toNat xs.length))
theorem StrsMk.later {k : Int} {w w' : World} {v : Value} {xs : List ByteArray} (h : StrsMk k w v xs) (hb : Below w.heap.size w w') : StrsMk k w' v xs := RowAt.below h rfl hb

theorem markStringS_x (v : Value) (xs : List ByteArray) (k : Int) (l u : Nat) (w : World) (hr : StrsIn l u w v xs) (hl : l ≤ w.heap.size) (hs : StrsSmall xs) (hk0 : 0 < k) (hk : k ≤ 4194304) :
    Calls Try.prog 91 #[v, .int .i64 k] w fun e w' => e = .returned (.int .i64 (k + (xs.length : Int))) ∧ StrsMk k w' v xs ∧ w.grownBy w' v.ownBlock ∧ Out l u w w' := by
  obtain ⟨n, rfl⟩ := Int.eq_ofNat_of_zero_le (Int.le_of_lt hk0)
  exact (markStringS_own v xs n l w hr.1 hs (by omega) (by omega)).mono fun e w' ⟨he, ho, hg⟩ => ⟨by rw [he]; simp, by rw [StrsMk, Int.toNat_natCast]; exact rowAt_own (n := xs.length) ho, hg, Out.of_grown hg hl (fun g hg' => ⟨hr.lo g hg', hr.2 g hg'⟩)⟩

theorem heldStringS_x (v : Value) (xs : List ByteArray) (k : Int) (w : World) (hr : StrsMk k w v xs) (hs : StrsSmall xs) (hk0 : 0 < k) (hk : k ≤ 4194304) :
    Calls Try.prog 92 #[v, .int .i64 k] w fun e w' => e = .returned (.int .i64 (k + (xs.length : Int))) ∧ Below w.heap.size w w' := by
  obtain ⟨n, rfl⟩ := Int.eq_ofNat_of_zero_le (Int.le_of_lt hk0)
  rw [StrsMk, Int.toNat_natCast] at hr
  exact (heldStringS_own v n xs.length w hr hs (by omega) (by omega)).mono fun e w' ⟨he, hb⟩ => ⟨by rw [he]; simp, hb⟩
end Go.Proofs.Ytffcgblionlhhaa
