import Derived.Test.YtehpeifaknbcnaaIntSS
import Derived.Test.YtehpeifaknbcnaaNet
namespace Go.Proofs.Ytehpeifaknbcnaa
open Go.RowKit Go.ChangeShapes Go.WideShapes Go.ChangeAt Go.Deep Go.Joins
set_option linter.unusedVariables false
set_option linter.unusedSimpArgs false

def GrpsFit (xss : List (List Int)) : Prop := ∀ xs ∈ xss, ∀ z ∈ xs, (Lit.int .i64 z).wf = true

section
variable {H : Type} {enc : TypeId × Value → H} {P : Program} {w : World} {base : Nat} {spare : Nat → Bool} {held : Bool}
theorem grps_trod {t e si : TypeId} {n : Nat} {v : Value} {x : DataW H × List MemPlace} (ht : P.underlying t = some (.slice e)) (he : P.underlying e = some (.slice si)) (hc : P.cellsOf e = 1)
    (hi : P.underlying si = some (.int .i64)) (hic : P.cellsOf si = 1) (h : DataW.trod enc P w base spare held n t [v] = some x) : ∃ xss : List (List Int), GrpsAt w v xss ∧ GrpsFit xss := by
  rcases open_slice ht h with ⟨hcs, _⟩ | ⟨a, len, cap, m, n', D, Pl, hcs, _, hl, hm, hmm, _, hel⟩
  · simp at hcs; subst hcs
    exact ⟨[], ⟨[], ⟨none, 0, rfl, Nat.le_refl _, by decide, fun k u hu => by simp at hu⟩, rfl, fun i h => by simp at h⟩, fun x hx => by simp at hx⟩
  · simp at hcs; subst hcs
    have hml : len ≤ m := by rw [hmm]; split <;> omega
    have hsp : ∀ k, k < len → a.spot = none := fun k hk => by
      obtain ⟨cs', hcc, htt⟩ := hel 0 (by omega)
      obtain ⟨_, hcl, hat⟩ := World.cells?_some hcc
      have := hat 0 (by omega)
      have hq : cs'[0]? = some (cs'[0]'(by omega)) := List.getElem?_eq_getElem _
      rw [hq] at this
      have := World.cell?_spot this
      simpa [Addr.add] using this
    have each : ∀ k, k < len → ∃ p : Value × List Int, (∃ b off, a = ⟨b, off, none⟩ ∧ w.cell? ⟨b, off + k, none⟩ = some p.1) ∧ RowAt w p.1 (ints p.2) ∧ ∀ z ∈ p.2, (Lit.int .i64 z).wf = true := fun k hk => by
      obtain ⟨cs', hcc, htt⟩ := hel k (by omega)
      obtain ⟨_, hcl, hat⟩ := World.cells?_some hcc
      rw [hc] at hcl hat
      match cs', hcl with
      | [c0], _ =>
        obtain ⟨zs, hz, hzw⟩ := ints_trod he hi hic htt
        have h0 := hat 0 (by omega)
        have hs := hsp k hk
        obtain ⟨b, off, sp⟩ := a
        simp only at hs
        subst hs
        refine ⟨(c0, zs), ⟨b, off, rfl, ?_⟩, hz, hzw⟩
        rw [addr_add, addr_add] at h0
        simpa [hc] using h0
    have fam : ∃ F : Nat → Value × List Int, ∀ k, k < len → (∃ b off, a = ⟨b, off, none⟩ ∧ w.cell? ⟨b, off + k, none⟩ = some (F k).1) ∧ RowAt w (F k).1 (ints (F k).2) ∧ ∀ z ∈ (F k).2, (Lit.int .i64 z).wf = true :=
      ⟨fun k => if hk : k < len then Classical.choose (each k hk) else (.slice none 0 0, []), fun k hk => by simp only [dif_pos hk]; exact Classical.choose_spec (each k hk)⟩
    obtain ⟨F, hF⟩ := fam
    refine ⟨(List.range len).map (fun k => (F k).2), ⟨(List.range len).map (fun k => (F k).1), ⟨some a, cap, by simp, by simp; omega, hm, fun k u hu => ?_⟩, by simp, fun i h h' => ?_⟩, fun xs hxs => ?_⟩
    · rw [List.getElem?_map] at hu
      have hk : k < len := by
        by_cases hk : k < len
        · exact hk
        · rw [List.getElem?_eq_none (by simp; omega)] at hu; simp at hu
      rw [List.getElem?_range hk] at hu
      have hu' : (F k).1 = u := by simpa using hu
      subst hu'
      obtain ⟨⟨b, off, ha, hc0⟩, _⟩ := hF k hk
      exact ⟨b, off, by rw [ha], World.block_lt_of_cell? w _ hc0, hc0⟩
    · have hi : i < len := by simpa using h
      simpa using (hF i hi).2.1
    · obtain ⟨k, hk, rfl⟩ := List.mem_map.1 hxs
      exact (hF k (List.mem_range.1 hk)).2.2
end

set_option maxRecDepth 100000 in
theorem grps_of {H : Type} {enc : TypeId × Value → H} {W : World} {base base' : Nat} {spare : Nat → Bool} {held : Bool} {v : Value} {d : DataW H} {p : List MemPlace}
    (hv : Value.okWide Try.prog W .any base 26 v) (h : DataW.Trod enc Try.prog W base' spare held 26 v d p) : ∃ n, GrpsAt W v n ∧ GrpsFit n := by
  obtain ⟨n, hn⟩ := h
  obtain ⟨a, l, c, rfl⟩ := okWide_slice Try.underlying26 hv
  exact grps_trod Try.underlying26 Try.underlying80 (by kernel_rfl) Try.underlying3 (by kernel_rfl) hn

set_option maxRecDepth 100000 in
theorem szIntSS_x (v : Value) (xss : List (List Int)) (left : Int) (w : World) (hr : GrpsAt w v xss) (_hf : GrpsFit xss) (h0 : 0 ≤ left) (h1 : left ≤ 1048576) :
    Calls Try.prog 24 #[v, .int .i64 left] w fun e w' => (∃ r : Int, e = .returned (.int .i64 r) ∧ (r = -1 ∨ (0 ≤ r ∧ r ≤ left ∧ GrpsSmall xss))) ∧ Below w.heap.size w w' := by
  obtain ⟨vs, h1r, h2, h3⟩ := hr
  obtain ⟨a, c, hv, hle, hmx⟩ : ∃ a c, v = .slice a xss.length c ∧ xss.length ≤ c ∧ c ≤ 9223372036854775807 := by obtain ⟨a, c, hv, e1, e2, _⟩ := h1r; exact ⟨a, c, by rw [hv, h2], by omega, e2⟩
  subst hv
  have HR := Lib.hid h1r
  have HE := Lib.hid (fun i (h : i < xss.length) W (hW : Below w.heap.size w W) r (g0 : 0 ≤ r) (g1 : r ≤ 1048576) => szIntS_any (vs[i]'(by omega)) xss[i] r W ((h3 i h (by omega)).below rfl hW) g0 g1)
  have HPs : Hid (∀ i (h : i < xss.length), preL xss (i + 1) = preL xss i + xss[i].length) := fun i h => preL_succ h
  clear h1r h3
  by_cases hneg : left - (xss.length : Int) < 0
  · go_enter Try.func24, Try.ntmps24
    go_wp2
    go_ret
    exact ⟨⟨-1, rfl, .inl rfl⟩, Below.refl _ _⟩
  · go_enter Try.func24, Try.ntmps24
    go_wp2_with fail
    go_loopw [1, 5] (fun l i wr => ∃ k : Nat, k ≤ xss.length ∧ i = .int .i64 k ∧ (∃ r : Int, l = .int .i64 r ∧ 0 ≤ r ∧ r ≤ 1048576 ∧ Hid ((xss.length : Int) + preL xss k + r = left)) ∧ Hid (Below w.heap.size w wr))
      (fun _ i _ => xss.length - (RowKit.intOf i).toNat)
    case atStart => exact ⟨0, Nat.zero_le _, rfl, ⟨_, rfl, by omega, by omega, by show _ = _; simp [preL]; omega⟩, Below.refl _ _⟩
    case round =>
      obtain ⟨k, hk, rfl, ⟨r, rfl, hr0, hr1, HL⟩, HB⟩ := hrel
      by_cases hlt : k < xss.length
      · obtain ⟨b, off, rfl, hbl, y⟩ := rowAt_cell (RowAt.below HR.out rfl HB.out) k (by omega)
        have HEk := Lib.hid (HE.out k hlt _ HB.out r hr0 hr1)
        have hps := HPs.out k hlt
        have hk1 : (k : Int) < (xss.length : Int) := by omega
        generalize vs[k] = x at *
        generalize xss[k] = xk at *
        go_wp2_with fail
        go_at_call 65
        refine HEk.out.mono ?_
        rintro e w1 ⟨⟨r2, rfl, hr2⟩, rfl⟩
        rcases hr2 with rfl | ⟨hp2, he2⟩
        · go_wp2_with fail
          go_ret
          exact ⟨⟨-1, rfl, .inl rfl⟩, HB.out⟩
        · have HL2 : Hid ((xss.length : Int) + preL xss (k + 1) + r2 = left) := by have h1 := HL.out; show _ = _; rw [hps]; push_cast; omega
          have hle : r2 ≤ r := by omega
          clear he2 HL
          go_wp2_with fail
          go_roundw
          case rel => exact ⟨k + 1, by omega, by go_num, ⟨_, rfl, hp2, by omega, HL2⟩, HB⟩
          case measure => simp [RowKit.intOf]; omega
      · obtain rfl : k = xss.length := by omega
        have hL := HL.out
        have HA : Hid (r ≤ left ∧ GrpsSmall xss) := ⟨by omega, by unfold GrpsSmall totL; omega⟩
        clear hL
        go_wp2_with fail
        go_ret
        exact ⟨⟨r, rfl, .inr ⟨hr0, HA.out⟩⟩, HB.out⟩

theorem infoInts : (Try.prog.info? 80).map (fun i => (i.zero, i.size, i.bytes)) = some (some (.slice none 0 0), 1, 24) := by kernel_rfl

structure GrpsPart (l : Nat) (k : Nat) (w : World) (g n : Nat) (vs : List Value) (xss : List (List Int)) : Prop where
  row : w.ownsRow l 80 1 (.slice (some ⟨g, 0, none⟩) n n) n vs
  len : vs.length = xss.length
  each : ∀ i (h : i < xss.length) (h' : i < vs.length), i < k → IntsIn l w.heap.size w vs[i] xss[i]
  out : ∀ i (h' : i < vs.length), i < k → vs[i].ownBlock ≠ some g
  apart : ∀ i j (h1 : i < vs.length) (h2 : j < vs.length), i < k → j < k → i ≠ j → ∀ q, vs[i].ownBlock = some q → vs[j].ownBlock ≠ some q

set_option maxRecDepth 100000 in
set_option maxHeartbeats 2000000 in
theorem toIntSS_x (v : Value) (xss : List (List Int)) (w : World) (hr : GrpsAt w v xss) (hs : GrpsSmall xss) :
    Calls Try.prog 26 #[v] w fun e w' => ∃ a c, e = .returned (.slice a xss.length c) ∧ GrpsIn w.heap.size w'.heap.size w' (.slice a xss.length c) xss ∧ Below w.heap.size w w' := by
  obtain ⟨vs, h1r, h2, h3⟩ := hr
  obtain ⟨a, c, hv⟩ : ∃ a c, v = .slice a xss.length c := by obtain ⟨a, c, hv, _⟩ := h1r; exact ⟨a, c, by rw [hv, h2]⟩
  subst hv
  have HR := Lib.hid h1r
  have hn := hs.1
  have HE := Lib.hid (fun i (h : i < xss.length) W (hW : Below w.heap.size w W) => toIntS_any (vs[i]'(by omega)) xss[i] W ((h3 i h (by omega)).below rfl hW) (by have h1 := preL_succ h; have h2 := preL_le (xss := xss) (i := i + 1) (by omega); have := hs.2; omega))
  clear h1r h3 hs
  obtain ⟨i0, hi, hz0, hz1, hz2⟩ := info_parts infoInts
  go_enter Try.func26, Try.ntmps26
  go_wp2_with (at_make; refine wpList_make_full _ rfl _ _ 26 rfl w.heap.size 80 i0 (.slice none 0 0) 1 Try.underlying26 hi hz0 hz1 .i64 .i64 (xss.length : Int) (xss.length : Int) xss.length rfl rfl rfl rfl ?c1 ?c2 ?c3 ?_)
  case c1 => rw [hz2]; omega
  case c2 => unfold maxLen; omega
  case c3 => exact Nat.le_refl _
  intro w1 hown hgrow
  have hbel : Below w.heap.size w w1 := (Below.refl _ _).grown hgrow (Nat.le_refl _) (fun k hk => by cases hk)
  have hzl := own_len hown
  generalize Array.toList (madeCells _ _) = z0 at *
  clear hgrow
  go_wp2
  go_loopw [4] (fun i wr => ∃ k : Nat, k ≤ xss.length ∧ i = .int .i64 k ∧ (∃ zs : List Value, Hid (GrpsPart w.heap.size k wr w.heap.size xss.length zs xss)) ∧ Hid (Below w.heap.size w wr))
    (fun i _ => xss.length - (RowKit.intOf i).toNat)
  case atStart => exact ⟨0, Nat.zero_le _, rfl, ⟨z0, hown, hzl, fun i h h' hj => by omega, fun i h' hj => by omega, fun i j h1 h2 hj => by omega⟩, hbel⟩
  case round =>
    obtain ⟨k, hk, rfl, ⟨zs, HG⟩, HB⟩ := hrel
    have hzs := HG.out.len
    by_cases hlt : k < xss.length
    · obtain ⟨b, off, rfl, hbl, y⟩ := rowAt_cell (RowAt.below HR.out rfl HB.out) k (by omega)
      have HEk := Lib.hid (HE.out k hlt _ HB.out)
      have hk1 : (k : Int) < (xss.length : Int) := by omega
      have hgl : w.heap.size < wr.heap.size := (HG.out.row.lt w.heap.size rfl).2
      generalize vs[k] = x at *
      go_wp2_with fail
      go_at_call 67
      refine HEk.out.mono ?_
      rintro e w2 ⟨c2, rfl, hown2, hb2⟩
      have HG2 : Hid (GrpsPart w.heap.size k w2 w.heap.size xss.length zs xss) := ⟨own_later HG.out.row hb2, hzs, fun i h h' hj => ((HG.out.each i h h' hj).later hb2).base (Nat.le_refl _) hb2.size, HG.out.out, HG.out.apart⟩
      have HN2 : Hid (IntsIn w.heap.size w2.heap.size w2 (.slice (some ⟨wr.heap.size, 0, none⟩) xss[k].length c2) xss[k]) := ⟨own_base hown2 (by omega), fun g hg => (hown2.lt g hg).2⟩
      have HLt2 : Hid (∀ i (h' : i < zs.length), i < k → ∀ q, zs[i].ownBlock = some q → q < wr.heap.size) := fun i h' hj q hq => (HG.out.each i (by omega) h' hj).2 q hq
      have HB2 : Hid (Below w.heap.size w w2) := HB.out.trans (hb2.mono HB.out.size)
      have hoc : w2.cell? ⟨w.heap.size, k, none⟩ = some (zs[k]'(by omega)) := by have := HG2.out.row.cellAt k (by omega); rw [show (⟨w.heap.size, k, none⟩ : Addr) = ⟨w.heap.size, k, none⟩ from rfl, this]; exact List.getElem?_eq_getElem _
      have hof := HG2.out.row.frozenAt k
      have HS2 : Hid (GrpsPart w.heap.size (k + 1) (w2.setCell ⟨w.heap.size, k, none⟩ (.slice (some ⟨wr.heap.size, 0, none⟩) xss[k].length c2)) w.heap.size xss.length (zs.set k (.slice (some ⟨wr.heap.size, 0, none⟩) xss[k].length c2)) xss) := by
        have hN := HN2.out
        have hgt : w.heap.size ≠ wr.heap.size := by omega
        have hsz : (w2.setCell ⟨w.heap.size, k, none⟩ (.slice (some ⟨wr.heap.size, 0, none⟩) xss[k].length c2)).heap.size = w2.heap.size := by simp [World.setCell]
        refine ⟨(HG2.out.row.stored k _).1, by simpa using hzs, fun i h h' hj => ?_, fun i h' hj => ?_, fun i j h1 h2 hi hj hne q hq => ?_⟩
        · rw [hsz]
          by_cases e : i = k
          · subst e
            simp only [List.getElem_set_self]
            exact ⟨own_other hN.1 (by simp [Value.ownBlock]; omega) _, hN.2⟩
          · have hz := HG2.out.each i h (by simpa using h') (by omega)
            simp only [List.getElem_set_ne (fun e2 => e e2.symm)]
            exact ⟨own_other hz.1 (HG.out.out i (by simpa using h') (by omega)) _, hz.2⟩
        · by_cases e : i = k
          · subst e
            simp only [List.getElem_set_self]
            simp [Value.ownBlock]; omega
          · simp only [List.getElem_set_ne (fun e2 => e e2.symm)]
            exact HG.out.out i (by simpa using h') (by omega)
        · by_cases e : i = k
          · subst e
            simp only [List.getElem_set_self, List.getElem_set_ne hne] at hq ⊢
            simp [Value.ownBlock] at hq
            subst hq
            intro e2
            have := HLt2.out j (by simpa using h2) (by omega) _ e2
            omega
          · simp only [List.getElem_set_ne (fun e2 => e e2.symm)] at hq
            by_cases e2 : j = k
            · subst e2
              simp only [List.getElem_set_self]
              have := HLt2.out i (by simpa using h1) (by omega) _ hq
              simp [Value.ownBlock]; omega
            · simp only [List.getElem_set_ne (fun e3 => e2 e3.symm)]
              exact HG.out.apart i j (by simpa using h1) (by simpa using h2) (by omega) (by omega) hne q hq
      clear hown2 hb2 HG HG2 HN2 HLt2 HB
      generalize zs[k] = old at *
      generalize xss[k].length = lk at *
      go_wp2_with fail
      go_roundw
      case rel => exact ⟨k + 1, by omega, by go_num, ⟨_, HS2⟩, own_stored_below HB2.out (Nat.le_refl _)⟩
      case measure => simp [RowKit.intOf]; omega
    · obtain rfl : k = xss.length := by omega
      go_wp2_with fail
      go_ret
      have hG := HG.out
      exact ⟨_, _, rfl, ⟨zs, hG.row, fun g hg => (hG.row.lt g hg).2, hzs, fun i h h' => hG.each i h h' h, fun i h' g hg e => by simp [Value.ownBlock] at e; subst e; exact hG.out i h' (by omega) hg, fun i j h1 h2 hne g hg => hG.apart i j h1 h2 (by omega) (by omega) hne g hg⟩, HB.out⟩
end Go.Proofs.Ytehpeifaknbcnaa
