/-
  CONTRACTS: impl.walkGroupOf, impl.WalkGroups.
-/
import Derived.Test.YtmbpkdplgfgheaaGroupP
import Derived.Test.YtmbpkdplgfgheaaIntSS
import Derived.Test.YtmbpkdplgfgheaaCloseWalks
namespace Go.Proofs.Ytmbpkdplgfgheaa
open Go.RowKit
set_option linter.unusedVariables false
set_option linter.unusedSimpArgs false

theorem infoIntS : (Try.prog.info? 34).map (fun i => (i.zero, i.size, i.bytes)) = some (some (.slice none 0 0), 1, 24) := by kernel_rfl
theorem GrpsOwn.snoc {l u m u2 : Nat} {w2 wl w3 : World} {v x v' : Value} {vs : List Value} {xss : List (List Int)} {ys : List Int} (h : GrpsOwn l u w2 v vs xss) (hu : u ≤ m) (hlm : l ≤ m) (hx : IntsIn m u2 w2 x ys) (hu2 : u2 ≤ w2.heap.size) (hm : m ≤ w2.heap.size)
    (hwl : Below w2.heap.size w2 wl) (hg : wl.grownBy w3 v.ownBlock) (hrow : w3.ownsRow l 34 1 v' (xss.length + 1) (vs ++ [x])) (hat : v'.ownBlock = v.ownBlock ∨ v'.ownBlock = some wl.heap.size) : GrpsOwn l w3.heap.size w3 v' (vs ++ [x]) (xss ++ [ys]) := by
  have hsz : w2.heap.size ≤ w3.heap.size := Nat.le_trans hwl.size hg.size
  have hkeep : ∀ g, g < w2.heap.size → v.ownBlock ≠ some g → w3.heap[g]? = w2.heap[g]? := fun g h1 h2 => (hg.block g (Nat.lt_of_lt_of_le h1 hwl.size) (fun e => h2 e.symm)).trans (hwl.block g h1)
  have hvlt : ∀ g, v.ownBlock = some g → g < u := h.hi
  have hvs : ∀ i (h' : i < vs.length) g, vs[i].ownBlock = some g → g < u := fun i h' g hg' => (h.each i (by have := h.len; omega) h').2 g hg'
  have hxg : ∀ g, x.ownBlock = some g → m ≤ g ∧ g < w2.heap.size := fun g hg' => ⟨(hx.1.lt g hg').1, (hx.1.lt g hg').2⟩
  refine ⟨by simpa using hrow, fun g hg' => (hrow.lt g hg').2, by simp [h.len], fun i h1 h2 => ?_, fun i h2 g hg' => ?_, fun i j h1 h2 hne g hg' => ?_⟩
  · by_cases e : i < vs.length
    · have hi : i < xss.length := by have := h.len; omega
      have h3 := h.each i hi e
      rw [List.getElem_append_left e, List.getElem_append_left hi]
      exact ⟨own_block h3.1 (fun g hg' => hkeep g (h3.1.lt g hg').2 (fun e2 => h.out i e g hg' e2)), fun g hg' => by have := (h3.1.lt g hg').2; omega⟩
    · have e2 : i = vs.length := by simp at h2; omega
      have e3 : i = xss.length := by have := h.len; omega
      have e4 : (vs ++ [x])[i]'h2 = x := by subst e2; simp
      have e5 : (xss ++ [ys])[i]'h1 = ys := by subst e3; simp
      rw [e4, e5]
      exact ⟨own_base (own_block hx.1 (fun g hg' => hkeep g (hxg g hg').2 (fun e6 => by have := hvlt g e6; have := (hxg g hg').1; omega))) hlm, fun g hg' => by have := (hxg g hg').2; omega⟩
  · by_cases e : i < vs.length
    · rw [List.getElem_append_left e] at hg'
      rcases hat with h3 | h3
      · rw [h3]; exact h.out i e g hg'
      · rw [h3]; intro e2; have := hvs i e g hg'; have := hwl.size; simp at e2; omega
    · have e2 : i = vs.length := by simp at h2; omega
      have e4 : (vs ++ [x])[i]'h2 = x := by subst e2; simp
      rw [e4] at hg'
      rcases hat with h3 | h3
      · rw [h3]; intro e6; have := hvlt g e6; have := (hxg g hg').1; omega
      · rw [h3]; intro e6; have := (hxg g hg').2; have := hwl.size; simp at e6; omega
  · have hcase : ∀ (q : Nat) (hq : q < (vs ++ [x]).length), (∃ hq' : q < vs.length, (vs ++ [x])[q] = vs[q]) ∨ (q = vs.length ∧ (vs ++ [x])[q] = x) := fun q hq => by
      by_cases e : q < vs.length
      · exact .inl ⟨e, List.getElem_append_left e⟩
      · have e2 : q = vs.length := by simp at hq; omega
        exact .inr ⟨e2, by subst e2; simp⟩
    rcases hcase i h1 with ⟨a1, a2⟩ | ⟨a1, a2⟩ <;> rcases hcase j h2 with ⟨b1, b2⟩ | ⟨b1, b2⟩
    · rw [a2] at hg'; rw [b2]; exact h.apart i j a1 b1 hne g hg'
    · rw [a2] at hg'; rw [b2]; intro e; have := hvs i a1 g hg'; have := (hxg g e).1; omega
    · rw [a2] at hg'; rw [b2]; intro e; have := hvs j b1 g e; have := (hxg g hg').1; omega
    · omega

set_option maxRecDepth 100000 in
set_option maxHeartbeats 4000000 in
theorem walkGroupOf_any (nv lv : Value) (n : NetD) (ws : List WlkD) (f : Nat) (w : World) (hr : NetAt w nv n) (hl : WalksAt w lv ws) (hv : WksOk n.stops.length ws) (hn8 : n.stops.length ≤ 8) (hf : f < n.stops.length) :
    Calls Try.prog 125 #[nv, lv, .int .i64 f] w fun e w' => (∃ a c, e = .returned (.slice a (grp ws n.stops.length f).length c) ∧ w'.ownsRow w.heap.size 3 1 (.slice a (grp ws n.stops.length f).length c) (grp ws n.stops.length f).length (ints (grp ws n.stops.length f))) ∧ Below w.heap.size w w' := by
  have HT := Lib.hid (fun W (h : Below w.heap.size w W) => walkingTimesOf_any nv lv n ws f W (hr.below rfl h) (hl.below rfl h) hv hn8 hf)
  have hlenR := wt_len hv hf
  have HRt := Lib.hid (show ∀ s, s < n.stops.length → wat (wt ws n.stops.length f) s = -1 ∨ 0 ≤ wat (wt ws n.stops.length f) s from fun s hs => by
    have h := wt_isWT hv hf
    have hl : s < (wt ws n.stops.length f).length := by rw [h.1]; exact hs
    rw [wat_at hl]
    rcases h.2 s hl with ⟨e, _⟩ | ⟨k, e, _⟩
    · exact .inl e
    · exact .inr (by rw [e]; omega))
  obtain ⟨a, c, a', c', rfl, -, -⟩ := net_open hr
  obtain ⟨lb, ld, rfl⟩ := WalkS_open hl
  have hn0 : 0 < n.stops.length := by omega
  clear hr hl hv hf
  obtain ⟨i0, hi0, hz0, hz1, hz2⟩ := info_parts infoInt
  unfold grp
  generalize hR : wt ws n.stops.length f = R at *
  clear hR
  generalize n.stops.length = N at *
  go_enter Try.func125, Try.ntmps125
  go_wp2_with fail
  obtain ⟨wa, hwa⟩ : ∃ wa : World, wa = (w.alloc (.cells #[.slice a N c, .slice a' n.lines.length c'] 27)).alloc (.cells #[] 3) := ⟨_, rfl⟩
  have hba : Below w.heap.size w wa := by rw [hwa]; exact ((Below.refl _ _).alloc (Nat.le_refl _) _).alloc (by simp) _
  have HO : Hid (wa.ownsRow (w.heap.size + 1) 3 1 (.slice (some ⟨w.heap.size + 1, 0, none⟩) 0 0) 0 (ints [])) := by
    have h := World.ownsRow_lit (base := w.heap.size + 1) (e := 3) (size := 1) (w.alloc (.cells #[.slice a N c, .slice a' n.lines.length c'] 27 (0, 0))) #[] 0 (by simp) (by decide) (by simp)
    show World.ownsRow _ _ _ _ _ _ _
    rw [hwa]; simpa [ints] using h
  have hza : w.heap.size + 1 < wa.heap.size := by rw [hwa]; simp
  rw [← hwa]
  clear hwa
  go_at_call 105
  refine (HT.out _ hba).mono ?_
  rintro e w2 ⟨⟨a2, c2, rfl, ho2⟩, hb2⟩
  obtain ⟨g2, rfl, hg1, hg2, hc2⟩ := own_cells ho2 hn0 hlenR
  have HRow := Lib.hid hc2
  have HO2 := Lib.hid (own_later HO.out hb2)
  have HB2 : Hid (Below w.heap.size w w2) := hba.trans (hb2.mono hba.size)
  obtain ⟨ws1, hws1⟩ : ∃ ws1, ws1 = wa.heap.size := ⟨_, rfl⟩
  obtain ⟨ws2, hws2⟩ : ∃ ws2, ws2 = w2.heap.size := ⟨_, rfl⟩
  have hbs := hb2.size
  rw [← hws1] at hg1 hza hbs
  rw [← hws2] at hg2 hbs
  have HBlk0 : Hid (∀ g, (Value.slice (some ⟨w.heap.size + 1, 0, none⟩) 0 0).ownBlock = some g → g < ws1 ∨ ws2 ≤ g) := fun g hg => .inl (by simp [Value.ownBlock] at hg; omega)
  clear hc2 ho2 hb2 HO HT hlenR hba
  go_wp2_with fail
  go_loopw [7, 16] (fun o i wr => ∃ k m : Nat, k ≤ N ∧ i = .int .i64 k ∧ m ≤ k ∧ Hid (m = (grpF R k).length) ∧ Hid (wr.ownsRow (w.heap.size + 1) 3 1 o m (ints (grpF R k))) ∧ Hid (∀ g, o.ownBlock = some g → g < ws1 ∨ ws2 ≤ g) ∧ Hid (∀ q, q < N → wr.cell? ⟨g2, q, none⟩ = some (.int .i64 (wat R q))) ∧ Hid (Below w.heap.size w wr) ∧ ws2 ≤ wr.heap.size)
    (fun _ i _ => N - (RowKit.intOf i).toNat)
  case atStart => exact ⟨0, 0, Nat.zero_le _, rfl, Nat.le_refl _, rfl, HO2, HBlk0, HRow, HB2, by omega⟩
  case round =>
    clear HO2 HBlk0 HRow HB2 hws1 hws2
    obtain ⟨k, m, hk, rfl, hmk, HMl, HOi, HBlk, HRow, HB, hzz⟩ := hrel
    obtain ⟨oa, oc, rfl⟩ := own_shape HOi.out
    by_cases hlt : k < N
    · have hq := HRow.out k hlt
      have hk1 : (k : Int) < (N : Int) := by omega
      have hor := HRt.out k hlt
      have HYes : Hid (0 ≤ wat R k → grpF R (k + 1) = grpF R k ++ [(k : Int)]) := fun h => grpF_yes h
      have HNo : Hid (¬ 0 ≤ wat R k → grpF R (k + 1) = grpF R k) := fun h => grpF_no h
      generalize wat R k = D at *
      by_cases hc : 0 ≤ D
      · have hdc : (D != -1) = true := by simp; omega
        have HSucc := Lib.hid (HYes.out hc)
        clear HYes HNo hor
        go_wp2_with (at_builtin; refine wpList_append_own_at _ rfl _ _ 34 rfl (w.heap.size + 1) 3 i0 (.int .i64 0) 1 8 Try.underlying34 hi0 hz0 hz1 hz2 rfl (by decide) _ m _ rfl (HOi.out.alloc _) ⟨wr.heap.size, 0, none⟩ 1 1 [.int .i64 (k : Int)] rfl rfl ?c1 ?c2 ?c3 ?c4 ?c5 ?_)
        case c1 => exact one_new _ _
        case c2 => intro u hu; simp at hu; subst hu; rfl
        case c3 => unfold maxLen; omega
        case c4 => omega
        case c5 => simp; omega
        intro v' w3 hown' hgrow _ hat
        have HR : Hid (w3.ownsRow (w.heap.size + 1) 3 1 v' (m + 1) (ints (grpF R (k + 1)))) := by
          show w3.ownsRow _ _ _ _ _ _
          rw [HSucc.out]; simpa [ints] using hown'
        have HMl2 : Hid (m + 1 = (grpF R (k + 1)).length) := by show _ = _; have e := HMl.out; rw [HSucc.out, List.length_append, ← e]; rfl
        have hog : Value.ownBlock (.slice oa m oc) ≠ some g2 := fun e => by rcases HBlk.out g2 e with h | h <;> omega
        have HRow2 : Hid (∀ q, q < N → w3.cell? ⟨g2, q, none⟩ = some (.int .i64 (wat R q))) := fun q hq => hgrow.cell (acell (HRow.out q hq) _) (fun e => hog e.symm)
        have HBlk2 : Hid (∀ g, v'.ownBlock = some g → g < ws1 ∨ ws2 ≤ g) := fun g hg => by
          rcases hat with h | h
          · rw [h] at hg; exact HBlk.out g hg
          · rw [h] at hg; simp at hg; omega
        have hwz := HB.out.size
        have HB3 : Hid (Below w.heap.size w w3) := (HB.out.alloc (by omega) _).grown hgrow (by simp; omega) (fun g hg => by have := (HOi.out.lt g hg).1; omega)
        have hw3 : ws2 ≤ w3.heap.size := by have := hgrow.size; simp at this; omega
        clear hown' hgrow hog hat hq
        go_wp2_with fail
        go_roundw
        case rel => exact ⟨k + 1, m + 1, by omega, by go_num, by omega, HMl2, HR, HBlk2, HRow2, HB3, hw3⟩
        case measure => simp [RowKit.intOf]; omega
      · have hd1 : D = -1 := by rcases hor with h | h <;> omega
        have hdc : (D != -1) = false := by simp [hd1]
        clear hd1
        have HSucc := Lib.hid (HNo.out (by omega))
        clear HYes HNo hor
        go_wp2_with fail
        go_roundw
        case rel => exact ⟨k + 1, m, by omega, by go_num, by omega, (by show _ = _; rw [HSucc.out]; exact HMl.out), by show World.ownsRow _ _ _ _ _ _ _; rw [HSucc.out]; exact HOi.out, HBlk, HRow, HB, hzz⟩
        case measure => simp [RowKit.intOf]; omega
    · obtain rfl : k = N := by omega
      go_wp2_with fail
      go_ret
      refine ⟨⟨oa, oc, ?_, ?_⟩, HB.out⟩
      · have e := HMl.out; rw [← e]; rfl
      · have e := HMl.out; rw [← e]; exact own_base HOi.out (Nat.le_succ _)
end Go.Proofs.Ytmbpkdplgfgheaa
