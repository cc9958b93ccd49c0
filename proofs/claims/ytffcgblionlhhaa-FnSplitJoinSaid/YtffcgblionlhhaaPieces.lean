/-
  CONTRACTS: impl.piecesOf and the iterator that it hands back; slices.AppendSeq and slices.Collect over it: the parts of a text between bytes.
-/
import Derived.Test.YtffcgblionlhhaaSplit
import Derived.Test.YtffcgblionlhhaaMa
import Derived.RangeFuncNested
import Derived.RangeFuncBound
import Derived.RangeFuncCalls
import Derived.RangeFuncLeaves
import Derived.Shelf.Abstract
import Derived.Shelf.RegionOpen
import Derived.WalkKit
import Derived.OwnWalkIn
import Derived.TacticsInMore
import Derived.LoopNIn
import Derived.LoopIn
import Derived.Maps.AppendAt
import Derived.BigQuiet
import Derived.Deep.QuietTactic
namespace Go.Proofs.Ytffcgblionlhhaa
open Go.RowKit Go.Shelf
set_option linter.unusedVariables false
attribute [local go_sem] Oper.semAt_some

/-- the parts as strings -/
def toB (l : List UInt8) : ByteArray := ⟨l.toArray⟩
def splitB (c : UInt8) (s : ByteArray) : List ByteArray := (splitL c s.data.toList).map toB
/-- the parts that are complete at k -/
def pcs (c : UInt8) (s : ByteArray) (k : Nat) : List ByteArray := (spFold c (s.data.toList.take k)).1.map toB
theorem strs_toB (ls : List (List UInt8)) : strs (ls.map toB) = ls.map strV := by simp [strs, toB, strV]
theorem pcs_len (c : UInt8) (s : ByteArray) (k : Nat) (hk : k ≤ s.size) : (pcs c s k).length ≤ k := by rw [pcs, List.length_map]; exact sp_len c s k hk
theorem pcs_hit {c : UInt8} {s : ByteArray} {k j : Nat} (hk : k < s.size) (h : SpAt c s k j) (e : s[k] = c) : pcs c s (k + 1) = pcs c s k ++ [s.extract j k] ∧ SpAt c s (k + 1) (k + 1) := by
  obtain ⟨h1, h2⟩ := sp_hit hk h e
  have hp := sp_part (Nat.le_of_lt hk) h
  refine ⟨?_, h2⟩
  unfold pcs
  rw [h1, List.map_append]
  simp only [List.map_cons, List.map_nil]
  rw [strV] at hp
  rw [Value.string.inj hp]; rfl
theorem pcs_miss {c : UInt8} {s : ByteArray} {k j : Nat} (hk : k < s.size) (h : SpAt c s k j) (e : s[k] ≠ c) : pcs c s (k + 1) = pcs c s k ∧ SpAt c s (k + 1) j := by
  obtain ⟨h1, h2⟩ := sp_miss hk h e
  exact ⟨by unfold pcs; rw [h1], h2⟩
theorem pcs_all {c : UInt8} {s : ByteArray} {j : Nat} (h : SpAt c s s.size j) : splitB c s = pcs c s s.size ++ [s.extract j s.size] := by
  have hp := sp_part (Nat.le_refl _) h
  rw [strV] at hp
  have hall := List.take_of_length_le (l := s.data.toList) (i := s.size) (by rw [length_list]; exact Nat.le_refl _)
  unfold splitB pcs splitL
  rw [Value.string.inj hp, hall, List.map_append]; rfl
theorem splitB_len (c : UInt8) (s : ByteArray) : (splitB c s).length ≤ s.size + 1 := by
  have h := sp_len c s s.size (Nat.le_refl _)
  have hall := List.take_of_length_le (l := s.data.toList) (i := s.size) (by rw [length_list]; exact Nat.le_refl _)
  rw [hall] at h
  simp only [splitB, splitL, List.length_map, List.length_append, List.length_singleton]; omega
theorem pcs_prefix {c : UInt8} {s : ByteArray} : ∀ (d k : Nat), k + d = s.size → pcs c s k <+: pcs c s s.size
  | 0, k, h => by rw [show k = s.size by omega]; exact List.prefix_refl _
  | d + 1, k, h => by
    have ih := pcs_prefix (c := c) (s := s) d (k + 1) (by omega)
    have hk : k < s.size := by omega
    refine List.IsPrefix.trans ?_ ih
    unfold pcs
    rw [take_snoc s k hk, spFold_snoc]
    unfold spStep
    split
    · rw [List.map_append]; exact List.prefix_append _ _
    · exact List.prefix_refl _

theorem pieces_prefix (c : UInt8) (s : ByteArray) : pcs c s s.size <+: splitB c s := by
  have hall := List.take_of_length_le (l := s.data.toList) (i := s.size) (by rw [length_list]; exact Nat.le_refl _)
  unfold splitB pcs splitL
  rw [hall, List.map_append]
  exact List.prefix_append _ _
theorem wpIn_scope_wide {n : Nat} {P : Program} {Q : Exit → Act → World → Prop} {a : Act} {w : World} {c : Code} (h : c.wpIn Fence.wide n P (Exit.noGoto Q) a w) : (Code.scope c).wpIn Fence.wide n P Q a w :=
  wpIn_wide.2 (wp_scope_straight (wpIn_wide.1 h))

theorem piecesOf_any (s : ByteArray) (c : UInt8) (w : World) :
    Calls Try.prog 98 #[.string s, .int .u8 (c.toNat : Int)] w fun e w' => e = .returned (.func (.func 195) #[] #[.pointer (some ⟨w.heap.size, 0, none⟩), .pointer (some ⟨w.heap.size + 1, 0, none⟩)]) ∧
      Below w.heap.size w w' ∧ w'.heap.size = w.heap.size + 2 ∧ w'.cell? ⟨w.heap.size, 0, none⟩ = some (.string s) ∧ w'.cell? ⟨w.heap.size + 1, 0, none⟩ = some (.int .u8 (c.toNat : Int)) := by
  go_enter Try.func98, Try.ntmps98
  go_wp2_with fail
  go_ret
  exact ⟨rfl, ((Below.refl _ _).alloc (Nat.le_refl _) _).alloc (by simp) _, by simp, by go_simp, by go_simp⟩

set_option maxRecDepth 100000 in
set_option maxHeartbeats 4000000 in
theorem pieces1_stops (n : Nat) (hn : 1 ≤ n) (bs bc : Nat) (s : ByteArray) (c : UInt8) (w0 w : World) (hw : Below w0.heap.size w0 w) (hs : w0.cell? ⟨bs, 0, none⟩ = some (.string s)) (hc : w0.cell? ⟨bc, 0, none⟩ = some (.int .u8 (c.toNat : Int))) (hsz : s.size ≤ 4000) :
    SeqStopsK Fence.wide n Try.prog 195 #[.pointer (some ⟨bs, 0, none⟩), .pointer (some ⟨bc, 0, none⟩)] (fun x : ByteArray => #[Value.string x]) (Below w0.heap.size) (fun ys => ys = splitB c s) (fun pre => pre <+: splitB c s) 4001 w := fun l J Jx W hW hJ hJx hY hs0 => by
  have HW0 : Hid (Below w0.heap.size w0 W) := hw.trans (hW.mono hw.size)
  have HJ := Lib.hid hJ
  have HY := Lib.hid hY
  have HS := Lib.hid (fun W' (h : Below w0.heap.size w0 W') => bkeep h hs)
  have HC := Lib.hid (fun W' (h : Below w0.heap.size w0 W') => bkeep h hc)
  clear hs hc hJ hJx hY hW hw
  refine callsIn_of_wp Try.func195 rfl trivial ?_ rfl
  simp only [Try.ntmps195, List.size_toArray, List.length_cons, List.length_nil, Nat.reduceAdd, Nat.reduceSub, Array.replicate_succ, Array.replicate_zero, List.push_toArray, List.append_toArray, List.nil_append, List.cons_append]
  refine wpIn_scope_wide ?_
  gi_wp2_with fail
  refine wpIn_label ?_
  gi_wp2_with fail
  gi_loopw [4] (fun st wr => ∃ j : Nat, j ≤ s.size ∧ st = .int .i64 (j : Int) ∧ Hid (SpAt c s j j) ∧ Hid (J (pcs c s j) wr) ∧ Hid (Below w0.heap.size w0 wr)) (fun st _ => (4001 - RowKit.intOf st).toNat)
  case atStart => exact ⟨0, Nat.zero_le _, rfl, spAt_zero c s, hs0, HW0.out⟩
  case round =>
    obtain ⟨j, hj, rfl, HSp, HJs, HB⟩ := hrel
    gi_wp2_with fail
    obtain ⟨wo, hwo⟩ : ∃ wo : World, wo = wr := ⟨_, rfl⟩
    subst hwo
    gi_loopw [4, 5] (fun st i wi => st = .int .i64 (j : Int) ∧ ∃ k : Nat, j ≤ k ∧ k ≤ s.size ∧ i = .int .i64 (k : Int) ∧ Hid (SpAt c s k j) ∧ Hid (pcs c s k = pcs c s j) ∧ ∃ m, wi = wo.drewN m) (fun _ i _ => (4001 - RowKit.intOf i).toNat)
    case atStart => exact ⟨rfl, j, Nat.le_refl _, hj, rfl, HSp.out, rfl, 0, rfl⟩
    case round =>
      obtain ⟨rfl, k, hjk, hk, rfl, HSk, HPk, m, rfl⟩ := hrel
      have f1 := HS.out wo HB.out
      have f2 := HC.out wo HB.out
      by_cases hlt : k < s.size
      · by_cases he : s[k] = c
        · have hb : ((s[k].toNat : Int) != (c.toNat : Int)) = false := by simp [he]
          have hk1 : (k : Int) < (s.size : Int) := by omega
          have HH := Lib.hid (pcs_hit hlt HSk.out he)
          clear he
          gi_wp2_with fail
          refine wpIn_wide.2 ?_
          go_quiet (fail)
          have HJ1 := Lib.hid (HJ.out _ _ (wo.drewN (m + nq)) none HJs.out ⟨rfl, rfl, rfl, Nat.le_refl _, fun _ _ _ => rfl⟩ (fun r e => by cases e))
          have HB1 : Hid (Below w0.heap.size w0 (wo.drewN (m + nq))) := HB.out.trans ((Dr.below ⟨m + nq, rfl⟩).mono HB.out.size)
          have Hlen : Hid ((pcs c s j).length < 4001) := by have := pcs_len c s j hj; show _ < _; omega
          have HPn : Hid (pcs c s (k + 1) = pcs c s j ++ [s.extract j k]) := by show _ = _; rw [HH.out.1, HPk.out]
          obtain ⟨fn, tmps, assign, body, hy, hR⟩ := HY.out _ (s.extract j k) _ HJ1.out Hlen.out
          gi_wp2_with fail
          refine hR.mono ?_
          clear hy hR
          rintro e W3 (⟨rfl, hJ3, hk3⟩ | ⟨rfl, hJx3⟩)
          · rw [← HPn.out] at hJ3
            have HJ3 := Lib.hid hJ3
            have HB3 : Hid (Below w0.heap.size w0 W3) := HB1.out.trans hk3
            clear hJ3 hk3
            gi_wp2_with fail
            go_roundw
            case rel => exact ⟨k + 1, by omega, by go_num, HH.out.2, HJ3.out, HB3.out⟩
            case measure => simp [RowKit.intOf]; omega
          · have HX : Hid (∃ pre, pre <+: splitB c s ∧ Jx pre W3) := ⟨_, by
              rw [← HPn.out]
              exact (pcs_prefix (s.size - (k + 1)) (k + 1) (by omega)).trans (pieces_prefix c s), hJx3⟩
            clear hJx3
            gi_wp2_with fail
            rw [Exit.noGoto_ret]
            refine bodyPost_ret (results_none rfl _ _ _) rfl ?_
            exact ⟨⟨_, rfl⟩, .inr HX.out⟩
        · have hb : ((s[k].toNat : Int) != (c.toNat : Int)) = true := by
            have : ¬ ((s[k].toNat : Int) = (c.toNat : Int)) := fun e => he (by have := byte_eq_int s[k] c; rw [e] at this; simpa using this)
            simpa using this
          have hk1 : (k : Int) < (s.size : Int) := by omega
          have HH := Lib.hid (pcs_miss hlt HSk.out he)
          clear he
          gi_wp2_with fail
          refine wpIn_wide.2 ?_
          go_quiet (fail)
          gi_wp2_with fail
          go_roundw
          case rel => exact ⟨rfl, k + 1, by omega, by omega, by go_num, HH.out.2, by rw [HH.out.1]; exact HPk.out, _, rfl⟩
          case measure => simp [RowKit.intOf]; omega
      · have hke : k = s.size := by omega
        have HJ1 := Lib.hid (HJ.out _ _ (wo.drewN m) none HJs.out ⟨rfl, rfl, rfl, Nat.le_refl _, fun _ _ _ => rfl⟩ (fun r e => by cases e))
        have Hlen : Hid ((pcs c s j).length < 4001) := by have := pcs_len c s j hj; show _ < _; omega
        have HPn : Hid (splitB c s = pcs c s j ++ [s.extract j s.size]) := by
          show _ = _
          rw [pcs_all (by rw [← hke]; exact HSk.out), ← hke, HPk.out]
        clear hke
        obtain ⟨fn, tmps, assign, body, hy, hR⟩ := HY.out _ (s.extract j s.size) _ HJ1.out Hlen.out
        gi_wp2_with fail
        refine hR.mono ?_
        clear hy hR
        rintro e W3 (⟨rfl, hJ3, hk3⟩ | ⟨rfl, hJx3⟩)
        · have HX : Hid (∃ ys, ys = splitB c s ∧ J ys W3) := ⟨_, HPn.out.symm, hJ3⟩
          clear hJ3 hk3
          gi_wp2_with fail
          rw [Exit.noGoto_ret]
          refine bodyPost_ret (results_none rfl _ _ _) rfl ?_
          exact ⟨⟨_, rfl⟩, .inl HX.out⟩
        · have HX : Hid (∃ pre, pre <+: splitB c s ∧ Jx pre W3) := ⟨_, by rw [HPn.out]; exact List.prefix_refl _, hJx3⟩
          clear hJx3
          gi_wp2_with fail
          rw [Exit.noGoto_ret]
          refine bodyPost_ret (results_none rfl _ _ _) rfl ?_
          exact ⟨⟨_, rfl⟩, .inr HX.out⟩

set_option maxRecDepth 100000 in
set_option maxHeartbeats 4000000 in
/-- slices.AppendSeq over the iterator that lies in two boxes -/
theorem appendPieces_any (bs bc : Nat) (s : ByteArray) (c : UInt8) (w : World) (hs : w.cell? ⟨bs, 0, none⟩ = some (.string s)) (hc : w.cell? ⟨bc, 0, none⟩ = some (.int .u8 (c.toNat : Int))) (hsz : s.size ≤ 4000) :
    Calls Try.prog 194 #[.slice none 0 0, .func (.func 195) #[] #[.pointer (some ⟨bs, 0, none⟩), .pointer (some ⟨bc, 0, none⟩)]] w fun e w' => ∃ v, e = .returned v ∧ w'.ownsRow w.heap.size 9 1 v (splitB c s).length (strs (splitB c s)) ∧ Below w.heap.size w w' := by
  obtain ⟨i0, hi, iz0, iz1, iz2⟩ := info_parts infoStr
  have hlen := splitB_len c s
  have HB0 : Hid (Below w.heap.size w (w.alloc (.cells #[.slice none 0 0] 26))) := (Below.refl _ _).alloc (Nat.le_refl _) _
  have HStop := Lib.hid (pieces1_stops 8 (by omega) bs bc s c w _ HB0.out hs hc hsz)
  have bO := Boxed.new w 26 (.slice none 0 0)
  clear hs hc
  refine (callsIn_wide (n := 9)).1 ?_
  refine callsIn_of_wp_marks Try.func194 rfl trivial ?_ rfl
  simp only [Try.ntmps194, List.size_toArray, List.length_cons, List.length_nil, Nat.reduceAdd, Nat.reduceSub, Array.replicate_succ, Array.replicate_zero, List.push_toArray, List.append_toArray, List.nil_append, List.cons_append]
  gi_wp2_with fail
  refine wpIn_rangeFunc_ownF rfl (by omega) (gf := 195) (lb := #[.pointer (some ⟨bs, 0, none⟩), .pointer (some ⟨bc, 0, none⟩)]) rfl trivial (enters_of Try.func195 (by kernel_rfl) rfl)
    HStop.out belowK_t (belowK_b (by simp)) (Below.refl _ _) (fun _ => rfl)
    (fun (pre : List ByteArray) W => (∃ v, Boxed W w.heap.size 26 v ∧ W.ownsRow w.heap.size 9 1 v pre.length (strs pre) ∧ True) ∧ Below w.heap.size w W)
    (fun _ _ _ => False)
    (OwnFrom.and (Own.from (holdsRow_own w.heap.size w.heap.size 26 9 1 (fun (pre : List ByteArray) => pre.length) (fun (pre : List ByteArray) => strs pre) (fun (_ : List ByteArray) _ => True)) _) (ownFrom_below (Nat.le_refl _) (by simp)))
    (fun _ _ _ _ _ hs _ _ => hs)
    ⟨⟨_, bO, World.ownsRow_nil _ _ _ _, trivial⟩, HB0.out⟩
    (fun x => { tmps := #[.slice none 0 0, .func (.func 195) #[] #[.pointer (some ⟨bs, 0, none⟩), .pointer (some ⟨bc, 0, none⟩)], .pointer (some ⟨w.heap.size, 0, none⟩), undef, .slice none 0 0, .string x, .func (.func 195) #[] #[.pointer (some ⟨bs, 0, none⟩), .pointer (some ⟨bc, 0, none⟩)], .string x, undef, undef, undef, undef, undef], defers := [] }) ?assign ?body ?done ?stop
  case assign =>
    intro l x W K hK
    gi_wp2
    simpa using hK
  case body =>
    rintro l pre x W ⟨⟨v, hv, hrow, _⟩, hB⟩ hlt
    have hc := hv.cell
    have hle := hB.size
    gi_wp2_with (gi_at_builtin; refine wpListIn_append_own _ rfl _ _ 26 rfl w.heap.size 9 i0 (.string ⟨#[]⟩) 1 16 Try.underlying26 hi iz0 iz1 iz2 rfl (by decide) _ _ _ rfl (hrow.alloc _) ⟨W.heap.size, 0, none⟩ 1 1 [.string x] rfl rfl (cell_one_new _ _ _) (by simp [Value.oneCell']) (by unfold maxLen; omega) (by omega) (by simp; omega) ?_; intro v' w5 hown' hgrow _; obtain ⟨g', cap', rfl⟩ := ownsRow_succ hown'; obtain ⟨hv5, hv6, hr6, hk6, hb6⟩ := hv.appended (by decide) hrow hle (Nat.le_refl _) hown' hgrow; have hc5 := hv5.cell; have hf5 := hv5.frozen)
    exact ⟨hk6, hb6, ⟨_, hv6, by simpa [strs] using hr6, trivial⟩, hB.trans hb6⟩
  case done =>
    rintro D ys W hD rfl ⟨⟨v, hv, hrow, _⟩, hB⟩ hK
    have hc := hv.cell
    gi_wp2
    refine ⟨by simp, .inl ⟨_, _, rfl, run_takeDeferred hK, ?_⟩⟩
    exact ⟨_, results_tmp rfl _ _ _, v, rfl, ownsRow_putObj hrow _ hK rfl, hB.trans (belowK_b (w := w) (Nat.le_refl _) W D _ _ (by simp at hD; omega) hK rfl rfl)⟩
  case stop =>
    rintro D cc pre W _ _ h _
    exact h.elim

theorem collectPieces_any (bs bc : Nat) (s : ByteArray) (c : UInt8) (w : World) (hs : w.cell? ⟨bs, 0, none⟩ = some (.string s)) (hc : w.cell? ⟨bc, 0, none⟩ = some (.int .u8 (c.toNat : Int))) (hsz : s.size ≤ 4000) :
    Calls Try.prog 97 #[.func (.func 195) #[] #[.pointer (some ⟨bs, 0, none⟩), .pointer (some ⟨bc, 0, none⟩)]] w fun e w' => ∃ v, e = .returned v ∧ w'.ownsRow w.heap.size 9 1 v (splitB c s).length (strs (splitB c s)) ∧ Below w.heap.size w w' := by
  have HA := Lib.hid (appendPieces_any bs bc s c w hs hc hsz)
  clear hs hc
  go_enter Try.func97, Try.ntmps97
  go_wp2_with fail
  go_at_call 194
  refine HA.out.mono ?_
  rintro e w1 ⟨v, rfl, ho, hb⟩
  go_wp2_with fail
  go_ret
  exact ⟨v, rfl, ho, hb⟩
end Go.Proofs.Ytffcgblionlhhaa
