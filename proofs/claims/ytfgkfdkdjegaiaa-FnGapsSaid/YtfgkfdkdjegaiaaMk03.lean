/-
  JOINED TEXTS, each under its own namespace line: IntsLaw, IntsX, CurPost, StepRun.
-/
import Derived.Test.YtfgkfdkdjegaiaaRows
import Derived.Test.YtfgkfdkdjegaiaaInts
import Derived.LoopTactic
import Derived.WalkLawsBesides
import Derived.BigQuiet
import Derived.Deep.RegionHeld3
import Derived.Deep.QuietTactic
import Derived.Laws.Entries
import Derived.Test.YtfgkfdkdjegaiaaMk01
import Derived.WalkKit
import Derived.Deep.AppendLies
import Derived.Deep.Upon
import Derived.OrdersHeld
namespace Go.Proofs.Ytfgkfdkdjegaiaa
open Go.RowKit
set_option linter.unusedVariables false

theorem infoInt : (Try.prog.info? 3).map (fun i => (i.zero, i.size, i.bytes)) = some (some (.int .i64 0), 1, 8) := by kernel_rfl

theorem szIntS_any (v : Value) (xs : List Int) (left : Int) (w : World) (hr : RowAt w v (ints xs)) (h0 : 0 ≤ left) (h1 : left ≤ 1048576) :
    Calls Try.prog 122 #[v, .int .i64 left] w fun e w' => (∃ r : Int, e = .returned (.int .i64 r) ∧ (r = -1 ∨ (0 ≤ r ∧ (xs.length : Int) + r = left))) ∧ w = w' := by
  obtain ⟨a, c, rfl, hc, hm, HC⟩ := ints_open hr
  clear hr
  by_cases hneg : left - (xs.length : Int) < 0
  · go_enter Try.func122, Try.ntmps122
    go_wp2
    go_ret
    exact ⟨⟨-1, rfl, .inl rfl⟩, rfl⟩
  · go_enter Try.func122, Try.ntmps122
    go_wp2
    go_ret
    exact ⟨⟨_, rfl, .inr ⟨by omega, by omega⟩⟩, rfl⟩

set_option maxHeartbeats 1000000 in
theorem toIntS_any (v : Value) (xs : List Int) (w : World) (hr : RowAt w v (ints xs)) (hn : xs.length ≤ 1048576) :
    Calls Try.prog 123 #[v] w fun e w' => ∃ c, e = .returned (.slice (some ⟨w.heap.size, 0, none⟩) xs.length c) ∧ w'.ownsRow w.heap.size 3 1 (.slice (some ⟨w.heap.size, 0, none⟩) xs.length c) xs.length (ints xs) ∧ Below w.heap.size w w' := by
  obtain ⟨a, c, rfl, hc, hm, HC⟩ := ints_open hr
  clear hr
  obtain ⟨i0, hi, hz0, hz1, hz2⟩ := info_parts infoInt
  go_enter Try.func123, Try.ntmps123
  go_wp2_with (at_make; refine wpList_make_full _ rfl _ _ 31 rfl w.heap.size 3 i0 (.int .i64 0) 1 Try.underlying31 hi hz0 hz1 .i64 .i64 (xs.length : Int) (xs.length : Int) xs.length rfl rfl rfl rfl ?c1 ?c2 ?c3 ?_)
  case c1 => rw [hz2]; omega
  case c2 => unfold maxLen; omega
  case c3 => exact Nat.le_refl _
  intro w1 hown hgrow
  have hbel : Below w.heap.size w w1 := (Below.refl _ _).grown hgrow (Nat.le_refl _) (fun k hk => by cases hk)
  have hzl := own_len hown
  generalize Array.toList (madeCells _ _) = z0 at *
  clear hgrow
  go_wp2
  go_loopw [4] (fun i wr => ∃ k : Nat, k ≤ xs.length ∧ i = .int .i64 k ∧ (∃ zs : List Value, zs.length = xs.length ∧ Hid (zs.take k = (ints xs).take k) ∧ wr.ownsRow w.heap.size 3 1 (.slice (some ⟨w.heap.size, 0, none⟩) xs.length xs.length) xs.length zs) ∧ Below w.heap.size w wr)
    (fun i _ => xs.length - (RowKit.intOf i).toNat)
  case atStart => exact ⟨0, Nat.zero_le _, rfl, ⟨z0, hzl, rfl, hown⟩, hbel⟩
  case round =>
    obtain ⟨k, hk, rfl, ⟨zs, hzs, HT, hown⟩, hbel⟩ := hrel
    by_cases hlt : k < xs.length
    · obtain ⟨b, off, rfl, hbl, hcx0⟩ := HC.out k hlt
      have hcx : wr.cell? ⟨b, off + k, none⟩ = some (.int .i64 xs[k]) := by rw [hbel.cell (p := ⟨b, off + k, none⟩) hbl]; exact hcx0
      have hoc : wr.cell? ⟨w.heap.size, k, none⟩ = some (zs[k]'(by omega)) := by rw [hown.cellAt k (by omega)]; exact List.getElem?_eq_getElem _
      have hof := hown.frozenAt k
      have hown2 := (hown.stored k (.int .i64 xs[k])).1
      have HT2 : Hid ((zs.set k (.int .i64 xs[k])).take (k + 1) = (ints xs).take (k + 1)) := by
        have := take_set_succ zs (ints xs) k (by omega) (by simpa [ints] using hlt) HT.out
        show _ = _
        simpa [ints] using this
      clear hcx0 hown
      generalize zs[k] = old at *
      generalize xs[k] = y at *
      go_wp2
      go_roundw
      case rel => exact ⟨k + 1, by omega, by go_num, ⟨_, by simpa using hzs, HT2, hown2⟩, own_stored_below hbel (Nat.le_refl _)⟩
      case measure => simp [RowKit.intOf]; omega
    · go_wp2
      go_ret
      refine ⟨xs.length, rfl, ?_, hbel⟩
      have := HT.out
      rw [List.take_of_length_le (by omega), List.take_of_length_le (by simp [ints]; omega)] at this
      rw [← this]; exact hown

set_option maxHeartbeats 1000000 in
theorem eqIntS_same (v v' : Value) (xs : List Int) (w : World) (hr : RowAt w v (ints xs)) (hr' : RowAt w v' (ints xs)) :
    Calls Try.prog 48 #[v, v'] w fun e w' => e = .returned (.bool true) ∧ Below w.heap.size w w' := by
  obtain ⟨a, c, rfl, hc, hm, HC⟩ := ints_open hr
  obtain ⟨a', c', rfl, hc', hm', HC'⟩ := ints_open hr'
  clear hr hr'
  go_enter Try.func48, Try.ntmps48
  go_wp2
  go_loopw [5] (fun i wr => ∃ k : Nat, k ≤ xs.length ∧ i = .int .i64 k ∧ ∃ m, wr = w.drewN m)
    (fun i _ => xs.length - (RowKit.intOf i).toNat)
  case atStart => exact ⟨0, Nat.zero_le _, rfl, 0, rfl⟩
  case round =>
    obtain ⟨k, hk, rfl, m, rfl⟩ := hrel
    by_cases hlt : k < xs.length
    · obtain ⟨b, off, rfl, _, hcx⟩ := HC.out k hlt
      obtain ⟨b', off', rfl, _, hcx'⟩ := HC'.out k hlt
      generalize xs[k] = y at *
      have hk1 : (k : Int) < (xs.length : Int) := by omega
      have hyy : (y != y) = false := by simp
      go_wp2
      go_quiet (fail)
      go_wp2
      go_roundw
      case rel => exact ⟨k + 1, by omega, by go_num, _, rfl⟩
      case measure => simp [RowKit.intOf]; omega
    · go_wp2
      go_ret
      exact ⟨rfl, Dr.below ⟨m, rfl⟩⟩

set_option maxHeartbeats 1000000 in
theorem markIntS_own (v : Value) (xs : List Int) (k : Int) (B : Nat) (w : World) (hr : w.ownsRow B 3 1 v xs.length (ints xs)) (hn : xs.length ≤ 1048576) (hk0 : 0 ≤ k) (hk : k ≤ 1073741824) :
    Calls Try.prog 51 #[v, .int .i64 k] w fun e w' => e = .returned (.int .i64 (k + xs.length)) ∧ w'.ownsRow B 3 1 v xs.length (ints (countUp k xs.length)) ∧ w.grownBy w' v.ownBlock := by
  obtain ⟨a, c, rfl⟩ := own_shape hr
  have HO := Lib.hid hr
  clear hr
  go_enter Try.func51, Try.ntmps51
  go_wp2
  go_loopw [1, 5] (fun q i wr => ∃ j : Nat, j ≤ xs.length ∧ i = .int .i64 j ∧ q = .int .i64 (k + j) ∧ (∃ zs : List Value, zs.length = xs.length ∧ Hid (zs.take j = (ints (countUp k xs.length)).take j) ∧ Hid (wr.ownsRow B 3 1 (.slice a xs.length c) xs.length zs)) ∧ Hid (w.grownBy wr (Value.ownBlock (.slice a xs.length c))))
    (fun _ i _ => xs.length - (RowKit.intOf i).toNat)
  case atStart => exact ⟨0, Nat.zero_le _, rfl, by simp, ⟨_, ints_len xs, rfl, HO.out⟩, World.grownBy.refl _ _⟩
  case round =>
    obtain ⟨j, hj, rfl, rfl, ⟨zs, hzs, HT, HOwn⟩, HG⟩ := hrel
    by_cases hlt : j < xs.length
    · obtain ⟨_, h2⟩ := HOwn.out
      rcases h2 with ⟨hv, h0⟩ | ⟨g, cap, cur, hv, hg, hblk, h3, h4, h5, h6⟩
      · omega
      simp at hv
      obtain ⟨rfl, rfl⟩ := hv
      have hown := HOwn.out
      have hoc : wr.cell? ⟨g, j, none⟩ = some (zs[j]'(by omega)) := by rw [hown.cellAt j (by omega)]; exact List.getElem?_eq_getElem _
      have hof := hown.frozenAt j
      have HOwn2 := Lib.hid (hown.stored j (.int .i64 (k + j))).1
      have HT2 : Hid ((zs.set j (.int .i64 (k + j))).take (j + 1) = (ints (countUp k xs.length)).take (j + 1)) := by
        have hl2 : j < (ints (countUp k xs.length)).length := by rw [ints_len, countUp_len]; exact hlt
        have := take_set_succ zs (ints (countUp k xs.length)) j (by omega) hl2 HT.out
        have e : (ints (countUp k xs.length))[j]'hl2 = .int .i64 (k + j) := by simp only [ints, List.getElem_map]; rw [countUp_get]
        rw [e] at this; exact this
      have HG2 : Hid (w.grownBy (wr.setCell ⟨g, j, none⟩ (.int .i64 (k + j))) (some g)) :=
        ⟨HG.out.os, HG.out.tape, HG.out.output, by have := HG.out.size; simp [World.setCell]; omega, fun q hq hne => by
          rw [Below.heap_setCell _ _ _ _ (fun e => hne (by rw [e]))]; exact HG.out.block q hq hne⟩
      clear HG
      clear hown hblk h4 h5 h6
      generalize zs[j] = old at *
      go_wp2
      go_roundw
      case rel => exact ⟨j + 1, by omega, by go_num, by go_num, ⟨_, by simpa using hzs, HT2, HOwn2⟩, HG2⟩
      case measure => simp [RowKit.intOf]; omega
    · have hjl : j = xs.length := by omega
      subst hjl
      go_wp2
      go_ret
      refine ⟨rfl, ?_, HG.out⟩
      have := HT.out
      rw [List.take_of_length_le (by omega), List.take_of_length_le (by rw [ints_len, countUp_len]; omega)] at this
      rw [← this]; exact HOwn.out

theorem heldIntS_own (v : Value) (k : Int) (n : Nat) (w : World) (hr : RowAt w v (ints (countUp k n))) (hn : n ≤ 1048576) (hk0 : 0 ≤ k) (hk : k ≤ 1073741824) :
    Calls Try.prog 52 #[v, .int .i64 k] w fun e w' => e = .returned (.int .i64 (k + n)) ∧ w = w' := by
  obtain ⟨a, c, rfl, hc, hm, HC⟩ := ints_open hr
  rw [countUp_len] at *
  clear hr
  go_enter Try.func52, Try.ntmps52
  go_wp2
  go_loop [1, 5] (fun q i => ∃ j : Nat, j ≤ n ∧ i = .int .i64 j ∧ q = .int .i64 (k + j)) (fun _ i => n - (RowKit.intOf i).toNat)
  case atStart => exact ⟨0, Nat.zero_le _, rfl, by simp⟩
  case round =>
    obtain ⟨j, hj, rfl, rfl⟩ := hrel
    by_cases hlt : j < n
    · obtain ⟨b, off, rfl, _, hcx⟩ := HC.out j (by rw [countUp_len]; exact hlt)
      rw [countUp_get] at hcx
      have hne : (k + (j : Int) != k + (j : Int)) = false := by simp
      go_wp2
      go_round
      case rel => exact ⟨j + 1, by omega, by go_num, by go_num⟩
      case measure => simp [RowKit.intOf]; omega
    · have hjl : j = n := by omega
      subst hjl
      go_wp2
      go_ret
      exact ⟨rfl, rfl⟩
end Go.Proofs.Ytfgkfdkdjegaiaa

namespace Go.Proofs.Ytfgkfdkdjegaiaa
open Go.RowKit
set_option linter.unusedVariables false

def IntsSmall (xs : List Int) : Prop := xs.length ≤ 1048576

theorem toIntS_x (v : Value) (xs : List Int) (w : World) (hr : RowAt w v (ints xs)) (hs : IntsSmall xs) :
    Calls Try.prog 123 #[v] w fun e w' => ∃ a c, e = .returned (.slice a xs.length c) ∧ IntsIn w.heap.size w'.heap.size w' (.slice a xs.length c) xs ∧ Below w.heap.size w w' :=
  (toIntS_any v xs w hr hs).mono fun e w' ⟨c, he, ho, hb⟩ => ⟨_, c, he, IntsIn.mk ho, hb⟩

theorem eqIntS_x (v v' : Value) (xs : List Int) (w : World) (hr : RowAt w v (ints xs)) (hr' : RowAt w v' (ints xs)) (hs : IntsSmall xs) :
    Calls Try.prog 48 #[v, v'] w fun e w' => e = .returned (.bool true) ∧ Below w.heap.size w w' := eqIntS_same v v' xs w hr hr'

/-- numbers that hold marks from k on -/
def IntsMk (k : Int) (w : World) (v : Value) (xs : List Int) : Prop := RowAt w v (ints (countUp k xs.length))
theorem IntsMk.later {k : Int} {w w' : World} {v : Value} {xs : List Int} (h : IntsMk k w v xs) (hb : Below w.heap.size w w') : IntsMk k w' v xs := RowAt.below h rfl hb

theorem markIntS_x (v : Value) (xs : List Int) (k : Int) (l u : Nat) (w : World) (hr : IntsIn l u w v xs) (hl : l ≤ w.heap.size) (hs : IntsSmall xs) (hk0 : 0 ≤ k) (hk : k ≤ 1073741824) :
    Calls Try.prog 51 #[v, .int .i64 k] w fun e w' => e = .returned (.int .i64 (k + (xs.length : Int))) ∧ IntsMk k w' v xs ∧ w.grownBy w' v.ownBlock ∧ Out l u w w' :=
  (markIntS_own v xs k l w hr.1 hs hk0 hk).mono fun e w' ⟨he, ho, hg⟩ => ⟨he, rowAt_own (n := xs.length) ho, hg, Out.of_grown hg hl (fun g hg' => ⟨hr.lo g hg', hr.2 g hg'⟩)⟩

theorem heldIntS_x (v : Value) (xs : List Int) (k : Int) (w : World) (hr : IntsMk k w v xs) (hs : IntsSmall xs) (hk0 : 0 ≤ k) (hk : k ≤ 1073741824) :
    Calls Try.prog 52 #[v, .int .i64 k] w fun e w' => e = .returned (.int .i64 (k + (xs.length : Int))) ∧ Below w.heap.size w w' :=
  (heldIntS_own v k xs.length w hr hs hk0 hk).mono fun e w' ⟨he, hw⟩ => ⟨he, by subst hw; exact Below.refl _ _⟩
end Go.Proofs.Ytfgkfdkdjegaiaa

namespace Go.Proofs.Ytfgkfdkdjegaiaa
open Go.RowKit
set_option linter.unusedVariables false

theorem curPost_alloc {w w1 : World} {b n : Nat} {v : Value} (h : CurPost w b n v w1) (o : Obj) : CurPost w b n v (w1.alloc o) := ⟨curAt_alloc h.1 o, codeOff_grown h.2.1 grown_alloc, grown_trans h.2.2 grown_alloc⟩
theorem curPost_start {w : World} {b n : Nat} {v : Value} (hc : CurAt w b v n) (hv : CodeOff w b v) (o : Obj) : CurPost w b n v (w.alloc o) := ⟨curAt_alloc hc o, codeOff_grown hv grown_alloc, grown_alloc⟩
theorem curPost_set {w w1 : World} {b n c o : Nat} {v u : Value} (hv : CodeOff w b v) (h : CurPost w b n v w1) (hc : w.heap.size ≤ c) (hbc : c ≠ b) : CurPost w b n v (w1.setCell ⟨c, o, none⟩ u) := by
  have hg : w.grownBy (w1.setCell ⟨c, o, none⟩ u) (some b) := ⟨h.2.2.os, h.2.2.tape, h.2.2.output, by have := h.2.2.size; simp [World.setCell]; exact this, fun k hk hr => (Below.heap_setCell _ _ _ _ (show k ≠ c by omega)).trans (h.2.2.block k hk hr)⟩
  obtain ⟨k, s, h1, h2⟩ := h.1
  exact ⟨⟨k, s, (Below.heap_setCell _ _ _ _ (show b ≠ c from fun e => hbc e.symm)).trans h1, h2⟩, codeOff_grown hv hg, hg⟩
theorem curPost_mono {w w1 : World} {b n m : Nat} {v : Value} (h : CurPost w b n v w1) (hn : n ≤ m) : CurPost w b m v w1 := ⟨curAt_mono h.1 hn, h.2⟩
theorem own_cur {w w1 : World} {b n : Nat} {v : Value} {B : Nat} {e : TypeId} {sz : Nat} {vl : Value} {m : Nat} {xs : List Value} (h : w.ownsRow B e sz vl m xs) (hB : b < B) (hp : CurPost w b n v w1) : w1.ownsRow B e sz vl m xs :=
  own_block h (fun g hg => hp.2.2.block g (h.lt g hg).2 (by have := (h.lt g hg).1; simp; omega))
/-- the cursor's words behind an append to a row of the call's own -/
theorem cur_grown {w w1 w2 : World} {b n : Nat} {v : Value} {r : Option Nat} (hv : CodeOff w b v) (hb : b < w.heap.size) (h : CurPost w b n v w1) (hg : w1.grownBy w2 r) (hr : ∀ g, r = some g → w.heap.size ≤ g) : CurPost w b n v w2 := by
  have hgg : w.grownBy w2 (some b) := ⟨hg.os.trans h.2.2.os, hg.tape.trans h.2.2.tape, hg.output.trans h.2.2.output, Nat.le_trans h.2.2.size hg.size, fun k hk hne => (hg.block k (Nat.lt_of_lt_of_le hk h.2.2.size) (fun e => by have := hr k e.symm; omega)).trans (h.2.2.block k hk hne)⟩
  obtain ⟨k, s, h1, h2⟩ := h.1
  exact ⟨⟨k, s, (hg.block b (Nat.lt_of_lt_of_le hb h.2.2.size) (fun e => by have := hr b e.symm; omega)).trans h1, h2⟩, codeOff_grown hv hgg, hgg⟩
theorem curPost_later {w w1 w2 : World} {b n : Nat} {v : Value} (hv : CodeOff w b v) (hb : b < w.heap.size) (h : CurPost w b n v w1) (hg : Below w1.heap.size w1 w2) : CurPost w b n v w2 :=
  cur_grown hv hb h (r := none) ⟨hg.os, hg.tape, hg.output, hg.size, fun k hk _ => hg.block k hk⟩ (fun g e => by cases e)
end Go.Proofs.Ytfgkfdkdjegaiaa

namespace Go.Proofs.Ytfgkfdkdjegaiaa
open Go.RowKit
set_option linter.unusedVariables false

theorem step_append_run {P : Program} {ops : Array Oper} {o : Oper} {a : Act} {K : Act → World → Prop} {Q : Exit → Act → World → Prop} {E : Prop} {w w' : World} {v y v' : Value} (hgd : o.guard = none) (s x : Operand) (t : TypeId)
    (ho : o.op = .call { callee := .builtin .append, args := #[s, x], argTypes := #[t, t] }) (hs : a.eval s = v) (hx : a.eval x = y) (hr : (Builtin.append_ #[t, t] o.type #[v, y]).run P w = .ok v' w') (h : K (a.put o.dst v') w') :
    if Region.wanted o (yielded ops a.tmps) = true then Oper.wp P o a w K Q else E := by
  have hw : Region.wanted o (yielded ops a.tmps) = true := by simp [Region.wanted, hgd]
  rw [if_pos hw]
  unfold Oper.wp execOp
  simp only [ho, resolve, invoke, builtin, Sem.run_bind, Sem.run_pure, Result.andThen_ok, List.map_toArray, List.map_cons, List.map_nil, hs, hx, hr]
  exact h
end Go.Proofs.Ytfgkfdkdjegaiaa
