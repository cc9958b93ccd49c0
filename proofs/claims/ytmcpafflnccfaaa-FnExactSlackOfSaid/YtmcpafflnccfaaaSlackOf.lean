/-
  CONTRACTS of spec.SlackOf, impl.SlackOf; both sides.
-/
import Derived.Test.YtmcpafflnccfaaaJourneyTimes
import Derived.Test.YtmcpafflnccfaaaL8Arr
import Derived.Test.YtmcpafflnccfaaaStepRun
namespace Go.Proofs.Ytmcpafflnccfaaa
open Go.RowKit Go.Maps Jrn
set_option linter.unusedVariables false
set_option linter.unusedSimpArgs false

/-- by how many minutes the first k legs could arrive later -/
def slT (cs : List LegD) (ch : Int) : Nat → List Int
  | 0 => []
  | k + 1 => if h : k + 1 < cs.length then slT cs ch k ++ [cs[k + 1].dep - (cs[k]'(by omega)).arr - ch] else slT cs ch k
theorem slT_succ {cs : List LegD} {ch : Int} {k : Nat} (h : k + 1 < cs.length) : slT cs ch (k + 1) = slT cs ch k ++ [cs[k + 1].dep - (cs[k]'(by omega)).arr - ch] := by rw [slT, dif_pos h]
theorem slT_len (cs : List LegD) (ch : Int) : ∀ k, (slT cs ch k).length ≤ k
  | 0 => Nat.le_refl _
  | k + 1 => by have := slT_len cs ch k; rw [slT]; split <;> simp <;> omega
noncomputable def slF (t : TTD) (ch : Int) (cs : List LegD) : List Int := if ansJ t ch cs then slT cs ch (cs.length - 1) else []
theorem slF_small (t : TTD) (ch : Int) (cs : List LegD) : IntsSmall (slF t ch cs) := by
  unfold slF
  split
  · rename_i h
    have := (ansJ_iff h).2.2.2.1
    have := slT_len cs ch (cs.length - 1)
    simp only [IntsSmall]; omega
  · simp [IntsSmall]

set_option maxRecDepth 100000 in
set_option maxHeartbeats 8000000 in
theorem specSl_any (v lv : Value) (t : TTD) (ch : Int) (cs : List LegD) (w : World) (hr : TTAt w v t) (hl : LegsAt w lv cs) (hf : TTFits t) (hs : TTSmall t) (hsl : LegsSmall cs) :
    Calls Try.prog 24 #[v, .int .i64 ch, lv] w fun e w' => StAns w.heap.size (slF t ch cs) (ansJ t ch cs) e w' ∧ Below w.heap.size w w' := by
  have HA := Lib.hid (fun W (hW : Below w.heap.size w W) => l8Asked_any v t ch W (hr.below rfl hW) hf)
  have HJ := Lib.hid (fun (hg : TTGood t) (h0 : 0 ≤ ch) (h1 : ch ≤ 30) W (hW : Below w.heap.size w W) => l8Journey_any v lv t ch cs W (hr.below rfl hW) (hl.below rfl hW) hg hs hsl h0 h1)
  have HL := Lib.hid hl
  obtain ⟨a, c, a', c', b, d, rfl, -, -⟩ := tt_open hr
  obtain ⟨la, lc, rfl⟩ := LegS_open hl
  clear hr hf hl hs
  obtain ⟨wa, hwa⟩ : ∃ wa : World, wa = (w.alloc (.cells #[.slice a t.net.stops.length c, .slice a' t.net.lines.length c', .slice b t.trips.length d] 38)).alloc (.cells #[] 3) := ⟨_, rfl⟩
  have p0 : wa.cell? ⟨w.heap.size, 0, none⟩ = some (.slice a t.net.stops.length c) := by rw [hwa]; go_simp
  have p1 : wa.cell? ⟨w.heap.size, 1, none⟩ = some (.slice a' t.net.lines.length c') := by rw [hwa]; go_simp
  have p2 : wa.cell? ⟨w.heap.size, 2, none⟩ = some (.slice b t.trips.length d) := by rw [hwa]; go_simp
  have hba : Below w.heap.size w wa := by rw [hwa]; exact ((Below.refl _ _).alloc (Nat.le_refl _) _).alloc (by simp) _
  have hO : wa.ownsRow (w.heap.size + 1) 3 1 (.slice (some ⟨w.heap.size + 1, 0, none⟩) 0 0) 0 (ints []) := by
    have h := row_new (w.alloc (.cells #[.slice a t.net.stops.length c, .slice a' t.net.lines.length c', .slice b t.trips.length d] 38)) (w.heap.size + 1) (by simp)
    simp only [World.size_alloc] at h
    rw [hwa]; exact h
  have hza : w.heap.size + 2 ≤ wa.heap.size := by rw [hwa]; simp
  have HWA := Lib.hid hwa
  have HO := Lib.hid hO
  clear hwa hO
  cases hans : ansJ t ch cs with
  | false =>
    have HN : Hid (slF t ch cs = []) := by show _ = _; unfold slF; rw [hans]; rfl
    rw [HN.out]
    by_cases h : TTGood t ∧ 0 ≤ ch ∧ ch ≤ 30
    · rw [askB_yes h] at HA
      have HJ1 := Lib.hid (HJ.out h.1 h.2.1 h.2.2)
      rw [← ansJ_yes h.1 h.2, hans] at HJ1
      clear h HJ hans
      go_enter Try.func24, Try.ntmps24
      go_wp2_with fail
      rw [← HWA.out]
      go_at_call 63
      refine (HA.out _ hba).mono ?_
      rintro e w1 ⟨rfl, hb⟩
      have HB1 : Hid (Below w.heap.size w w1) := hba.trans (hb.mono hba.size)
      have HO1 := Lib.hid (own_later HO.out hb)
      have z0 := bkeep hb p0
      have z1 := bkeep hb p1
      have z2 := bkeep hb p2
      have hz1 := hb.size
      clear hb hba p0 p1 p2 HO
      go_wp2_with fail
      go_at_call 64
      refine (HJ1.out _ HB1.out).mono ?_
      rintro e w2 ⟨rfl, hb⟩
      have HB2 : Hid (Below w.heap.size w w2) := HB1.out.trans (hb.mono HB1.out.size)
      have HO2 := Lib.hid (own_later HO1.out hb)
      have hz2 := hb.size
      clear hb z0 z1 z2 HO1
      go_wp2_with fail
      go_ret2
      exact ⟨⟨_, rfl, own_base HO2.out (Nat.le_succ _)⟩, HB2.out⟩
    · rw [askB_no h] at HA
      clear h HJ hans
      go_enter Try.func24, Try.ntmps24
      go_wp2_with fail
      rw [← HWA.out]
      go_at_call 63
      refine (HA.out _ hba).mono ?_
      rintro e w1 ⟨rfl, hb⟩
      have HB1 : Hid (Below w.heap.size w w1) := hba.trans (hb.mono hba.size)
      have HO1 := Lib.hid (own_later HO.out hb)
      have z0 := bkeep hb p0
      have z1 := bkeep hb p1
      have z2 := bkeep hb p2
      have hz1 := hb.size
      clear hb hba p0 p1 p2 HO
      clear z0 z1 z2
      go_wp2_with fail
      go_ret2
      exact ⟨⟨_, rfl, own_base HO1.out (Nat.le_succ _)⟩, HB1.out⟩
  | true =>
    obtain ⟨hg, hch, hj⟩ := ansJ_iff hans
    rw [askB_yes ⟨hg, hch⟩] at HA
    have HJ1 := Lib.hid (HJ.out hg hch.1 hch.2)
    rw [jrnB_yes hj] at HJ1
    have HN : Hid (slF t ch cs = slT cs ch (cs.length - 1)) := if_pos hans
    have hlen := hj.2.1
    obtain ⟨hc0, hc1⟩ := hch
    obtain ⟨n, hnl, hnu⟩ : ∃ n, n < cs.length ∧ cs.length < n + 2 := ⟨cs.length - 1, by have := hj.1; omega, by omega⟩
    have HBd := Lib.hid (fun k hk => jrn_bound hg hj k hk)
    clear hans HJ hg hj
    go_enter Try.func24, Try.ntmps24
    go_wp2_with fail
    rw [← HWA.out]
    go_at_call 63
    refine (HA.out _ hba).mono ?_
    rintro e w1 ⟨rfl, hb⟩
    have HB1 : Hid (Below w.heap.size w w1) := hba.trans (hb.mono hba.size)
    have HO1 := Lib.hid (own_later HO.out hb)
    have z0 := bkeep hb p0
    have z1 := bkeep hb p1
    have z2 := bkeep hb p2
    have hz1 := hb.size
    clear hb hba p0 p1 p2 HO
    go_wp2_with fail
    go_at_call 64
    refine (HJ1.out _ HB1.out).mono ?_
    rintro e w2 ⟨rfl, hb⟩
    have HB2 : Hid (Below w.heap.size w w2) := HB1.out.trans (hb.mono HB1.out.size)
    have HO2 := Lib.hid (own_later HO1.out hb)
    have hz2 := hb.size
    clear hb z0 z1 z2 HO1
    go_wp2_with fail
    go_loopw [8, 9] (fun o q wr => ∃ m : Nat, m + 1 ≤ cs.length ∧ q = .int .i64 ((m : Int) + 1) ∧ Hid (wr.ownsRow (w.heap.size + 1) 3 1 o (slT cs ch m).length (ints (slT cs ch m))) ∧ Hid (Below w.heap.size w wr) ∧ w.heap.size < wr.heap.size) (fun _ q _ => cs.length - (RowKit.intOf q).toNat)
    case atStart => exact ⟨0, by omega, by simp, HO2.out, HB2.out, by omega⟩
    case round =>
      obtain ⟨m, hm, rfl, HOwn, HB, hzw⟩ := hrel
      obtain ⟨oa, oc, rfl⟩ := own_shape HOwn.out
      have hzr := HB.out.size
      have hsl := slT_len cs ch m
      by_cases hlt : m + 1 < cs.length
      · have hLw := HL.out.below rfl HB.out
        obtain ⟨g, go, rfl, hgb, -, -, -, y3, -⟩ := leg_at hLw (m + 1) hlt
        obtain ⟨g', go', hg', -, -, -, -, -, u4⟩ := leg_at hLw m (by omega)
        simp at hg'
        obtain ⟨rfl, rfl⟩ := hg'
        obtain ⟨g2, go2, hg2, hgw, -⟩ := leg_at HL.out 0 (by omega)
        simp at hg2
        have HFar : Hid (∀ q, (Value.slice oa (slT cs ch m).length oc).ownBlock = some q → g ≠ q) := fun q hq e => by have := (HOwn.out.lt q hq).1; omega
        clear hLw hg2 hgw
        have hb1 := HBd.out (m + 1) hlt
        have hb0 := HBd.out m (by omega)
        have HSucc : Hid (slT cs ch (m + 1) = slT cs ch m ++ [cs[m + 1].dep - cs[m].arr - ch]) := slT_succ hlt
        have hm4 : (m : Int) ≤ 4 := by omega
        generalize cs[m + 1].dep = dp at *
        generalize (cs[m]'(by omega)).arr = ar at *
        obtain ⟨x, hx⟩ : ∃ x, x = dp - ar - ch := ⟨_, rfl⟩
        rw [← hx] at HSucc
        have hw1 : IntKind.i64.wrap (dp - ar) = dp - ar := IntWalk.i64_in _ (by omega)
        have hw2 : IntKind.i64.wrap (dp - ar - ch) = x := by rw [IntWalk.i64_in _ (by omega)]; omega
        have HXe := Lib.hid hx
        clear hx
        have hk2 : (m : Int) + 1 < (cs.length : Int) := by omega
        have hk4 : (m : Int) < (cs.length : Int) := by omega
        have hk5 : (0 : Int) ≤ (m : Int) := by omega
        have hk6 : (0 : Int) ≤ (m : Int) + 1 := by omega
        have hwk2 : IntKind.i64.wrap (m : Int) = (m : Int) := IntWalk.i64_in _ (by omega)
        have htn : ((m : Int) + 1).toNat = m + 1 := by omega
        go_wp2_with fail
        refine wp_region_held_drew (S := (fun w' => w'.cell? ⟨g, go + (m + 1) * 5 + 3, none⟩ = some (.int .i64 dp) ∧ w'.cell? ⟨g, go + m * 5 + 4, none⟩ = some (.int .i64 ar))) (by kernel_rfl) ?_ (fun hHeld => ?_)
        · exact ⟨y3, u4⟩
        refine wpAnyH_take (i := 0) (v := ?_) (by simp only [List.getElem?_toArray, List.getElem?_cons_zero]; rfl) (by kernel_rfl) (by kernel_rfl) (by kernel_rfl) (by exact fun _ _ _ h => h) (Or.inl ⟨by rfl, ?_⟩) (by assumption) ?_
        rotate_left
        · intro w' hSw; obtain ⟨e0, e1⟩ := hSw
          go_simp; try with_reducible rfl
        try simp only [Act.put, List.setIfInBounds_toArray, List.set_cons_zero, List.set_cons_succ]
        refine wpAnyH_take (i := 1) (v := ?_) (by simp only [List.getElem?_toArray, List.getElem?_cons_succ, List.getElem?_cons_zero]; rfl) (by kernel_rfl) (by kernel_rfl) (by kernel_rfl) (by exact fun _ _ _ h => h) (Or.inl ⟨by rfl, ?_⟩) (by assumption) ?_
        rotate_left
        · intro w' hSw; obtain ⟨e0, e1⟩ := hSw
          go_simp; try with_reducible rfl
        try simp only [Act.put, List.setIfInBounds_toArray, List.set_cons_zero, List.set_cons_succ]
        refine wpAnyH_take (i := 2) (v := ?_) (by simp only [List.getElem?_toArray, List.getElem?_cons_succ, List.getElem?_cons_zero]; rfl) (by kernel_rfl) (by kernel_rfl) (by kernel_rfl) (by exact fun _ _ _ h => h) (Or.inl ⟨by rfl, ?_⟩) (by assumption) ?_
        rotate_left
        · intro w' hSw; obtain ⟨e0, e1⟩ := hSw
          go_simp; try with_reducible rfl
        try simp only [Act.put, List.setIfInBounds_toArray, List.set_cons_zero, List.set_cons_succ]
        refine wpAnyH_take (i := 3) (v := ?_) (by simp only [List.getElem?_toArray, List.getElem?_cons_succ, List.getElem?_cons_zero]; rfl) (by kernel_rfl) (by kernel_rfl) (by kernel_rfl) (by exact fun _ _ _ h => h) (Or.inl ⟨by rfl, ?_⟩) (by assumption) ?_
        rotate_left
        · intro w' hSw; obtain ⟨e0, e1⟩ := hSw
          go_simp; try with_reducible rfl
        try simp only [Act.put, List.setIfInBounds_toArray, List.set_cons_zero, List.set_cons_succ]
        refine wpAnyH_take (i := 4) (v := ?_) (by simp only [List.getElem?_toArray, List.getElem?_cons_succ, List.getElem?_cons_zero]; rfl) (by kernel_rfl) (by kernel_rfl) (by kernel_rfl) (by exact fun _ _ _ h => h) (Or.inl ⟨by rfl, ?_⟩) (by assumption) ?_
        rotate_left
        · intro w' hSw; obtain ⟨e0, e1⟩ := hSw
          go_simp; try with_reducible rfl
        try simp only [Act.put, List.setIfInBounds_toArray, List.set_cons_zero, List.set_cons_succ]
        refine wpAnyH_take (i := 5) (v := ?_) (by simp only [List.getElem?_toArray, List.getElem?_cons_succ, List.getElem?_cons_zero]; rfl) (by kernel_rfl) (by kernel_rfl) (by kernel_rfl) (by exact fun _ _ _ h => h) (Or.inl ⟨by rfl, ?_⟩) (by assumption) ?_
        rotate_left
        · intro w' hSw; obtain ⟨e0, e1⟩ := hSw
          go_simp; try with_reducible rfl
        try simp only [Act.put, List.setIfInBounds_toArray, List.set_cons_zero, List.set_cons_succ]
        refine wpAnyH_take (i := 6) (v := ?_) (by simp only [List.getElem?_toArray, List.getElem?_cons_succ, List.getElem?_cons_zero]; rfl) (by kernel_rfl) (by kernel_rfl) (by kernel_rfl) (by exact fun _ _ _ h => h) (Or.inl ⟨by rfl, ?_⟩) (by assumption) ?_
        rotate_left
        · intro w' hSw; obtain ⟨e0, e1⟩ := hSw
          go_simp; try with_reducible rfl
        try simp only [Act.put, List.setIfInBounds_toArray, List.set_cons_zero, List.set_cons_succ]
        refine wpAnyH_take (i := 7) (v := ?_) (by simp only [List.getElem?_toArray, List.getElem?_cons_succ, List.getElem?_cons_zero]; rfl) (by kernel_rfl) (by kernel_rfl) (by kernel_rfl) (by exact fun _ _ _ h => h) (Or.inl ⟨by rfl, ?_⟩) (by assumption) ?_
        rotate_left
        · intro w' hSw; obtain ⟨e0, e1⟩ := hSw
          go_simp; try with_reducible rfl
        try simp only [Act.put, List.setIfInBounds_toArray, List.set_cons_zero, List.set_cons_succ]
        refine wpAnyH_take (i := 8) (v := ?_) (by simp only [List.getElem?_toArray, List.getElem?_cons_succ, List.getElem?_cons_zero]; rfl) (by kernel_rfl) (by kernel_rfl) (by kernel_rfl) (by exact fun _ _ _ h => h) (Or.inl ⟨by rfl, ?_⟩) (by assumption) ?_
        rotate_left
        · intro w' hSw; obtain ⟨e0, e1⟩ := hSw
          go_simp; try with_reducible rfl
        try simp only [Act.put, List.setIfInBounds_toArray, List.set_cons_zero, List.set_cons_succ]
        refine wpAnyH_take (i := 9) (v := ?_) (by simp only [List.getElem?_toArray, List.getElem?_cons_succ, List.getElem?_cons_zero]; rfl) (by kernel_rfl) (by kernel_rfl) (by kernel_rfl) (by exact fun _ _ _ h => h) (Or.inl ⟨by rfl, ?_⟩) (by assumption) ?_
        rotate_left
        · intro w' hSw; obtain ⟨e0, e1⟩ := hSw
          go_simp; try with_reducible rfl
        try simp only [Act.put, List.setIfInBounds_toArray, List.set_cons_zero, List.set_cons_succ]
        refine wpAnyH_take (i := 10) (v := ?_) (by simp only [List.getElem?_toArray, List.getElem?_cons_succ, List.getElem?_cons_zero]; rfl) (by kernel_rfl) (by kernel_rfl) (by kernel_rfl) (by exact fun _ _ _ h => h) (Or.inl ⟨by rfl, ?_⟩) (by assumption) ?_
        rotate_left
        · intro w' hSw; obtain ⟨e0, e1⟩ := hSw
          go_simp; try with_reducible rfl
        try simp only [Act.put, List.setIfInBounds_toArray, List.set_cons_zero, List.set_cons_succ]
        refine wpAnyH_take (i := 11) (v := ?_) (by simp only [List.getElem?_toArray, List.getElem?_cons_succ, List.getElem?_cons_zero]; rfl) (by kernel_rfl) (by kernel_rfl) (by kernel_rfl) (by exact fun _ _ _ h => h) (Or.inl ⟨by rfl, ?_⟩) (by assumption) ?_
        rotate_left
        · intro w' hSw; obtain ⟨e0, e1⟩ := hSw
          go_simp; try with_reducible rfl
        try simp only [Act.put, List.setIfInBounds_toArray, List.set_cons_zero, List.set_cons_succ]
        refine wpAnyH_take (i := 12) (v := ?_) (by simp only [List.getElem?_toArray, List.getElem?_cons_succ, List.getElem?_cons_zero]; rfl) (by kernel_rfl) (by kernel_rfl) (by kernel_rfl) (by exact fun _ _ _ h => h) (Or.inl ⟨by rfl, ?_⟩) (by assumption) ?_
        rotate_left
        · intro w' hSw; obtain ⟨e0, e1⟩ := hSw
          go_simp; try with_reducible rfl
        try simp only [Act.put, List.setIfInBounds_toArray, List.set_cons_zero, List.set_cons_succ]
        refine wpAnyH_take (i := 13) (v := ?_) (by simp only [List.getElem?_toArray, List.getElem?_cons_succ, List.getElem?_cons_zero]; rfl) (by kernel_rfl) (by kernel_rfl) (by kernel_rfl) (by exact fun _ _ _ h => h) (Or.inl ⟨by rfl, ?_⟩) (by assumption) ?_
        rotate_left
        · intro w' hSw; obtain ⟨e0, e1⟩ := hSw
          go_simp; try with_reducible rfl
        try simp only [Act.put, List.setIfInBounds_toArray, List.set_cons_zero, List.set_cons_succ]
        refine wpAnyH_take (i := 14) (v := ?_) (by simp only [List.getElem?_toArray, List.getElem?_cons_succ, List.getElem?_cons_zero]; rfl) (by kernel_rfl) (by kernel_rfl) (by kernel_rfl) (by exact fun _ _ _ h => h) (Or.inl ⟨by rfl, ?_⟩) (by assumption) ?_
        rotate_left
        · intro w' hSw; obtain ⟨e0, e1⟩ := hSw
          go_simp; try with_reducible rfl
        try simp only [Act.put, List.setIfInBounds_toArray, List.set_cons_zero, List.set_cons_succ]
        refine wpAnyH_ready (rs := [15]) (by kernel_rfl) (by simp) ?_
        refine AllReadyH.cons (by simp only [List.getElem?_toArray, List.getElem?_cons_succ, List.getElem?_cons_zero]; rfl) (fun K hK => ?_) AllReadyH.nil
        go_simp
        obtain ⟨wA, hwA⟩ : ∃ wA : World, wA = (World.alloc wr (.cells #[.int .i64 x] 3)).drew := ⟨_, rfl⟩
        have rb : Below wr.heap.size wr wA := by rw [hwA]; exact ((Below.refl _ _).alloc (Nat.le_refl _) _).drew
        have hSA : wA.cell? ⟨g, go + (m + 1) * 5 + 3, none⟩ = some (.int .i64 dp) ∧ wA.cell? ⟨g, go + m * 5 + 4, none⟩ = some (.int .i64 ar) := ⟨bkeep rb hHeld.1, bkeep rb hHeld.2⟩
        have HOA := Lib.hid (own_later HOwn.out rb)
        have HBA : Hid (Below w.heap.size w wA) := HB.out.trans (rb.mono hzr)
        have hyA : RowAt wA (.slice (some ⟨wr.heap.size, 0, none⟩) 1 1) (ints [x]) := by
          have h := World.ownsRow_lit (base := 0) (e := 3) (size := 1) wr #[.int .i64 x] 1 (Nat.zero_le _) (by decide) (by simp)
          have h2 : wA.ownsRow 0 3 1 (.slice (some ⟨wr.heap.size, 0, none⟩) 1 1) 1 (ints [x]) := by rw [hwA]; simpa [ints] using own_later h (Below.refl _ _).drew
          exact rowAt_own h2
        have HYA := Lib.hid hyA
        have hzA : wr.heap.size ≤ wA.heap.size := rb.size
        rw [← hwA]
        clear rb hwA hyA
        refine hK.out _ _ hSA (fun hH15 => ?_)
        clear hK K
        try simp only [Act.put, List.setIfInBounds_toArray, List.set_cons_zero, List.set_cons_succ]
        refine wpAnyH_ready (rs := [16]) (by kernel_rfl) (by simp) ?_
        refine AllReadyH.cons (by simp only [List.getElem?_toArray, List.getElem?_cons_succ, List.getElem?_cons_zero]; rfl) (fun K hK => ?_) AllReadyH.nil
        obtain ⟨vR, wR, hrun, hown, hgr, hloc⟩ := run_append_ints wA (w.heap.size + 1) (slT cs ch m).length (.slice oa (slT cs ch m).length oc) (slT cs ch m) HOA.out wr.heap.size 0 1 [x] HYA.out (by simp; omega) (by omega)
        have rb : Below (w.heap.size + 1) wA wR := ⟨hgr.os, hgr.tape, hgr.output, hgr.size, fun q hq => hgr.block q (by omega) (fun e => by have := (HOA.out.lt q e.symm).1; omega)⟩
        have hSR : wR.cell? ⟨g, go + (m + 1) * 5 + 3, none⟩ = some (.int .i64 dp) ∧ wR.cell? ⟨g, go + m * 5 + 4, none⟩ = some (.int .i64 ar) := ⟨hgr.cell hSA.1 (fun e => HFar.out g e.symm rfl), hgr.cell hSA.2 (fun e => HFar.out g e.symm rfl)⟩
        have HBR : Hid (Below w.heap.size w wR) := HBA.out.trans (rb.mono (Nat.le_succ _))
        have HOR : Hid (wR.ownsRow (w.heap.size + 1) 3 1 vR (slT cs ch (m + 1)).length (ints (slT cs ch (m + 1)))) := by
          show World.ownsRow _ _ _ _ _ _ _
          rw [HSucc.out, List.length_append]; exact hown
        have hzR : w.heap.size < wR.heap.size := by have := rb.size; omega
        simp only [List.length_singleton] at hrun
        refine step_append_run rfl (.tmp 29) (.tmp 44) 51 rfl rfl rfl hrun ?_
        clear hrun hown hgr hloc rb
        refine hK.out _ _ hSR (fun hH16 => ?_)
        clear hK K
        try simp only [Act.put, List.setIfInBounds_toArray, List.set_cons_zero, List.set_cons_succ]
        refine wpAnyH_take (i := 17) (v := ?_) (by simp only [List.getElem?_toArray, List.getElem?_cons_succ, List.getElem?_cons_zero]; rfl) (by kernel_rfl) (by kernel_rfl) (by kernel_rfl) (by exact fun _ _ _ h => h) (Or.inl ⟨by rfl, ?_⟩) (by assumption) ?_
        rotate_left
        · intro w' hSw; obtain ⟨e0, e1⟩ := hSw
          go_simp; try with_reducible rfl
        try simp only [Act.put, List.setIfInBounds_toArray, List.set_cons_zero, List.set_cons_succ]
        refine wpAnyH_done (by kernel_rfl) ?_ _
        go_wp2_with fail
        go_roundw
        case rel => exact ⟨m + 1, by omega, by go_num, HOR, HBR, hzR⟩
        case measure => simp [RowKit.intOf]; omega
      · obtain rfl : m = n := by omega
        have hk2 : ¬ (m : Int) + 1 < (cs.length : Int) := by omega
        have HF : Hid (slT cs ch m = slF t ch cs) := by show _ = _; rw [HN.out, show cs.length - 1 = m by omega]
        go_wp2_with fail
        go_ret2
        exact ⟨⟨_, rfl, by rw [← HF.out]; exact own_base HOwn.out (Nat.le_succ _)⟩, HB.out⟩

set_option maxRecDepth 100000 in
set_option maxHeartbeats 8000000 in
theorem implSl_any (v lv : Value) (t : TTD) (ch : Int) (cs : List LegD) (w : World) (hr : TTAt w v t) (hl : LegsAt w lv cs) (hf : TTFits t) (hs : TTSmall t) (hsl : LegsSmall cs) (hfl : LegsFit cs) :
    Calls Try.prog 25 #[v, .int .i64 ch, lv] w fun e w' => StAns w.heap.size (slF t ch cs) (ansJ t ch cs) e w' ∧ Below w.heap.size w w' := by
  have HV := Lib.hid (fun W (hW : Below w.heap.size w W) => implValidJ_any v lv t ch cs W (hr.below rfl hW) (hl.below rfl hW) hf hs hsl hfl)
  have HL := Lib.hid hl
  obtain ⟨a, c, a', c', b, d, rfl, -, -⟩ := tt_open hr
  obtain ⟨la, lc, rfl⟩ := LegS_open hl
  clear hr hf hl hs
  obtain ⟨wa, hwa⟩ : ∃ wa : World, wa = (w.alloc (.cells #[.slice a t.net.stops.length c, .slice a' t.net.lines.length c', .slice b t.trips.length d] 38)).alloc (.cells #[] 3) := ⟨_, rfl⟩
  have p0 : wa.cell? ⟨w.heap.size, 0, none⟩ = some (.slice a t.net.stops.length c) := by rw [hwa]; go_simp
  have p1 : wa.cell? ⟨w.heap.size, 1, none⟩ = some (.slice a' t.net.lines.length c') := by rw [hwa]; go_simp
  have p2 : wa.cell? ⟨w.heap.size, 2, none⟩ = some (.slice b t.trips.length d) := by rw [hwa]; go_simp
  have hba : Below w.heap.size w wa := by rw [hwa]; exact ((Below.refl _ _).alloc (Nat.le_refl _) _).alloc (by simp) _
  have hO : wa.ownsRow (w.heap.size + 1) 3 1 (.slice (some ⟨w.heap.size + 1, 0, none⟩) 0 0) 0 (ints []) := by
    have h := row_new (w.alloc (.cells #[.slice a t.net.stops.length c, .slice a' t.net.lines.length c', .slice b t.trips.length d] 38)) (w.heap.size + 1) (by simp)
    simp only [World.size_alloc] at h
    rw [hwa]; exact h
  have hza : w.heap.size + 2 ≤ wa.heap.size := by rw [hwa]; simp
  have HWA := Lib.hid hwa
  have HO := Lib.hid hO
  clear hwa hO
  cases hans : ansJ t ch cs with
  | false =>
    have HN : Hid (slF t ch cs = []) := by show _ = _; unfold slF; rw [hans]; rfl
    rw [HN.out]
    rw [hans] at HV
    clear hans
    go_enter Try.func25, Try.ntmps25
    go_wp2_with fail
    rw [← HWA.out]
    go_at_call 34
    refine (HV.out _ hba).mono ?_
    rintro e w1 ⟨rfl, hb⟩
    have HB1 : Hid (Below w.heap.size w w1) := hba.trans (hb.mono hba.size)
    have HO1 := Lib.hid (own_later HO.out hb)
    have hz1 := hb.size
    clear hb hba p0 p1 p2 HO
    go_wp2_with fail
    go_ret2
    exact ⟨⟨_, rfl, own_base HO1.out (Nat.le_succ _)⟩, HB1.out⟩
  | true =>
    rw [hans] at HV
    obtain ⟨hg, hch, hj⟩ := ansJ_iff hans
    have HN : Hid (slF t ch cs = slT cs ch (cs.length - 1)) := if_pos hans
    have hlen := hj.2.1
    obtain ⟨hc0, hc1⟩ := hch
    obtain ⟨n, hnl, hnu⟩ : ∃ n, n < cs.length ∧ cs.length < n + 2 := ⟨cs.length - 1, by have := hj.1; omega, by omega⟩
    have HBd := Lib.hid (fun k hk => jrn_bound hg hj k hk)
    clear hans hg hj
    go_enter Try.func25, Try.ntmps25
    go_wp2_with fail
    rw [← HWA.out]
    go_at_call 34
    refine (HV.out _ hba).mono ?_
    rintro e w1 ⟨rfl, hb⟩
    have HB1 : Hid (Below w.heap.size w w1) := hba.trans (hb.mono hba.size)
    have HO1 := Lib.hid (own_later HO.out hb)
    have hz1 := hb.size
    clear hb hba p0 p1 p2 HO
    go_wp2_with fail
    go_loopw [8, 9] (fun o q wr => ∃ m : Nat, m + 1 ≤ cs.length ∧ q = .int .i64 ((m : Int) + 1) ∧ Hid (wr.ownsRow (w.heap.size + 1) 3 1 o (slT cs ch m).length (ints (slT cs ch m))) ∧ Hid (Below w.heap.size w wr) ∧ w.heap.size < wr.heap.size) (fun _ q _ => cs.length - (RowKit.intOf q).toNat)
    case atStart => exact ⟨0, by omega, by simp, HO1.out, HB1.out, by omega⟩
    case round =>
      obtain ⟨m, hm, rfl, HOwn, HB, hzw⟩ := hrel
      obtain ⟨oa, oc, rfl⟩ := own_shape HOwn.out
      have hzr := HB.out.size
      have hsl := slT_len cs ch m
      by_cases hlt : m + 1 < cs.length
      · have hLw := HL.out.below rfl HB.out
        obtain ⟨g, go, rfl, hgb, -, -, -, y3, -⟩ := leg_at hLw (m + 1) hlt
        obtain ⟨g', go', hg', -, -, -, -, -, u4⟩ := leg_at hLw m (by omega)
        simp at hg'
        obtain ⟨rfl, rfl⟩ := hg'
        obtain ⟨g2, go2, hg2, hgw, -⟩ := leg_at HL.out 0 (by omega)
        simp at hg2
        have HFar : Hid (∀ q, (Value.slice oa (slT cs ch m).length oc).ownBlock = some q → g ≠ q) := fun q hq e => by have := (HOwn.out.lt q hq).1; omega
        clear hLw hg2 hgw
        have hb1 := HBd.out (m + 1) hlt
        have hb0 := HBd.out m (by omega)
        have HSucc : Hid (slT cs ch (m + 1) = slT cs ch m ++ [cs[m + 1].dep - cs[m].arr - ch]) := slT_succ hlt
        have hm4 : (m : Int) ≤ 4 := by omega
        generalize cs[m + 1].dep = dp at *
        generalize (cs[m]'(by omega)).arr = ar at *
        obtain ⟨x, hx⟩ : ∃ x, x = dp - ar - ch := ⟨_, rfl⟩
        rw [← hx] at HSucc
        have hw1 : IntKind.i64.wrap (dp - ch) = dp - ch := IntWalk.i64_in _ (by omega)
        have hw2 : IntKind.i64.wrap (dp - ch - ar) = x := by rw [IntWalk.i64_in _ (by omega)]; omega
        have HXe := Lib.hid hx
        clear hx
        have hk2 : (m : Int) + 1 < (cs.length : Int) := by omega
        have hk4 : (m : Int) < (cs.length : Int) := by omega
        have hk5 : (0 : Int) ≤ (m : Int) := by omega
        have hk6 : (0 : Int) ≤ (m : Int) + 1 := by omega
        have hwk2 : IntKind.i64.wrap (m : Int) = (m : Int) := IntWalk.i64_in _ (by omega)
        have htn : ((m : Int) + 1).toNat = m + 1 := by omega
        go_wp2_with fail
        refine wp_region_held_drew (S := (fun w' => w'.cell? ⟨g, go + (m + 1) * 5 + 3, none⟩ = some (.int .i64 dp) ∧ w'.cell? ⟨g, go + m * 5 + 4, none⟩ = some (.int .i64 ar))) (by kernel_rfl) ?_ (fun hHeld => ?_)
        · exact ⟨y3, u4⟩
        refine wpAnyH_take (i := 0) (v := ?_) (by simp only [List.getElem?_toArray, List.getElem?_cons_zero]; rfl) (by kernel_rfl) (by kernel_rfl) (by kernel_rfl) (by exact fun _ _ _ h => h) (Or.inl ⟨by rfl, ?_⟩) (by assumption) ?_
        rotate_left
        · intro w' hSw; obtain ⟨e0, e1⟩ := hSw
          go_simp; try with_reducible rfl
        try simp only [Act.put, List.setIfInBounds_toArray, List.set_cons_zero, List.set_cons_succ]
        refine wpAnyH_take (i := 1) (v := ?_) (by simp only [List.getElem?_toArray, List.getElem?_cons_succ, List.getElem?_cons_zero]; rfl) (by kernel_rfl) (by kernel_rfl) (by kernel_rfl) (by exact fun _ _ _ h => h) (Or.inl ⟨by rfl, ?_⟩) (by assumption) ?_
        rotate_left
        · intro w' hSw; obtain ⟨e0, e1⟩ := hSw
          go_simp; try with_reducible rfl
        try simp only [Act.put, List.setIfInBounds_toArray, List.set_cons_zero, List.set_cons_succ]
        refine wpAnyH_take (i := 2) (v := ?_) (by simp only [List.getElem?_toArray, List.getElem?_cons_succ, List.getElem?_cons_zero]; rfl) (by kernel_rfl) (by kernel_rfl) (by kernel_rfl) (by exact fun _ _ _ h => h) (Or.inl ⟨by rfl, ?_⟩) (by assumption) ?_
        rotate_left
        · intro w' hSw; obtain ⟨e0, e1⟩ := hSw
          go_simp; try with_reducible rfl
        try simp only [Act.put, List.setIfInBounds_toArray, List.set_cons_zero, List.set_cons_succ]
        refine wpAnyH_take (i := 3) (v := ?_) (by simp only [List.getElem?_toArray, List.getElem?_cons_succ, List.getElem?_cons_zero]; rfl) (by kernel_rfl) (by kernel_rfl) (by kernel_rfl) (by exact fun _ _ _ h => h) (Or.inl ⟨by rfl, ?_⟩) (by assumption) ?_
        rotate_left
        · intro w' hSw; obtain ⟨e0, e1⟩ := hSw
          go_simp; try with_reducible rfl
        try simp only [Act.put, List.setIfInBounds_toArray, List.set_cons_zero, List.set_cons_succ]
        refine wpAnyH_take (i := 4) (v := ?_) (by simp only [List.getElem?_toArray, List.getElem?_cons_succ, List.getElem?_cons_zero]; rfl) (by kernel_rfl) (by kernel_rfl) (by kernel_rfl) (by exact fun _ _ _ h => h) (Or.inl ⟨by rfl, ?_⟩) (by assumption) ?_
        rotate_left
        · intro w' hSw; obtain ⟨e0, e1⟩ := hSw
          go_simp; try with_reducible rfl
        try simp only [Act.put, List.setIfInBounds_toArray, List.set_cons_zero, List.set_cons_succ]
        refine wpAnyH_take (i := 5) (v := ?_) (by simp only [List.getElem?_toArray, List.getElem?_cons_succ, List.getElem?_cons_zero]; rfl) (by kernel_rfl) (by kernel_rfl) (by kernel_rfl) (by exact fun _ _ _ h => h) (Or.inl ⟨by rfl, ?_⟩) (by assumption) ?_
        rotate_left
        · intro w' hSw; obtain ⟨e0, e1⟩ := hSw
          go_simp; try with_reducible rfl
        try simp only [Act.put, List.setIfInBounds_toArray, List.set_cons_zero, List.set_cons_succ]
        refine wpAnyH_take (i := 6) (v := ?_) (by simp only [List.getElem?_toArray, List.getElem?_cons_succ, List.getElem?_cons_zero]; rfl) (by kernel_rfl) (by kernel_rfl) (by kernel_rfl) (by exact fun _ _ _ h => h) (Or.inl ⟨by rfl, ?_⟩) (by assumption) ?_
        rotate_left
        · intro w' hSw; obtain ⟨e0, e1⟩ := hSw
          go_simp; try with_reducible rfl
        try simp only [Act.put, List.setIfInBounds_toArray, List.set_cons_zero, List.set_cons_succ]
        refine wpAnyH_take (i := 7) (v := ?_) (by simp only [List.getElem?_toArray, List.getElem?_cons_succ, List.getElem?_cons_zero]; rfl) (by kernel_rfl) (by kernel_rfl) (by kernel_rfl) (by exact fun _ _ _ h => h) (Or.inl ⟨by rfl, ?_⟩) (by assumption) ?_
        rotate_left
        · intro w' hSw; obtain ⟨e0, e1⟩ := hSw
          go_simp; try with_reducible rfl
        try simp only [Act.put, List.setIfInBounds_toArray, List.set_cons_zero, List.set_cons_succ]
        refine wpAnyH_take (i := 8) (v := ?_) (by simp only [List.getElem?_toArray, List.getElem?_cons_succ, List.getElem?_cons_zero]; rfl) (by kernel_rfl) (by kernel_rfl) (by kernel_rfl) (by exact fun _ _ _ h => h) (Or.inl ⟨by rfl, ?_⟩) (by assumption) ?_
        rotate_left
        · intro w' hSw; obtain ⟨e0, e1⟩ := hSw
          go_simp; try with_reducible rfl
        try simp only [Act.put, List.setIfInBounds_toArray, List.set_cons_zero, List.set_cons_succ]
        refine wpAnyH_take (i := 9) (v := ?_) (by simp only [List.getElem?_toArray, List.getElem?_cons_succ, List.getElem?_cons_zero]; rfl) (by kernel_rfl) (by kernel_rfl) (by kernel_rfl) (by exact fun _ _ _ h => h) (Or.inl ⟨by rfl, ?_⟩) (by assumption) ?_
        rotate_left
        · intro w' hSw; obtain ⟨e0, e1⟩ := hSw
          go_simp; try with_reducible rfl
        try simp only [Act.put, List.setIfInBounds_toArray, List.set_cons_zero, List.set_cons_succ]
        refine wpAnyH_take (i := 10) (v := ?_) (by simp only [List.getElem?_toArray, List.getElem?_cons_succ, List.getElem?_cons_zero]; rfl) (by kernel_rfl) (by kernel_rfl) (by kernel_rfl) (by exact fun _ _ _ h => h) (Or.inl ⟨by rfl, ?_⟩) (by assumption) ?_
        rotate_left
        · intro w' hSw; obtain ⟨e0, e1⟩ := hSw
          go_simp; try with_reducible rfl
        try simp only [Act.put, List.setIfInBounds_toArray, List.set_cons_zero, List.set_cons_succ]
        refine wpAnyH_take (i := 11) (v := ?_) (by simp only [List.getElem?_toArray, List.getElem?_cons_succ, List.getElem?_cons_zero]; rfl) (by kernel_rfl) (by kernel_rfl) (by kernel_rfl) (by exact fun _ _ _ h => h) (Or.inl ⟨by rfl, ?_⟩) (by assumption) ?_
        rotate_left
        · intro w' hSw; obtain ⟨e0, e1⟩ := hSw
          go_simp; try with_reducible rfl
        try simp only [Act.put, List.setIfInBounds_toArray, List.set_cons_zero, List.set_cons_succ]
        refine wpAnyH_take (i := 12) (v := ?_) (by simp only [List.getElem?_toArray, List.getElem?_cons_succ, List.getElem?_cons_zero]; rfl) (by kernel_rfl) (by kernel_rfl) (by kernel_rfl) (by exact fun _ _ _ h => h) (Or.inl ⟨by rfl, ?_⟩) (by assumption) ?_
        rotate_left
        · intro w' hSw; obtain ⟨e0, e1⟩ := hSw
          go_simp; try with_reducible rfl
        try simp only [Act.put, List.setIfInBounds_toArray, List.set_cons_zero, List.set_cons_succ]
        refine wpAnyH_take (i := 13) (v := ?_) (by simp only [List.getElem?_toArray, List.getElem?_cons_succ, List.getElem?_cons_zero]; rfl) (by kernel_rfl) (by kernel_rfl) (by kernel_rfl) (by exact fun _ _ _ h => h) (Or.inl ⟨by rfl, ?_⟩) (by assumption) ?_
        rotate_left
        · intro w' hSw; obtain ⟨e0, e1⟩ := hSw
          go_simp; try with_reducible rfl
        try simp only [Act.put, List.setIfInBounds_toArray, List.set_cons_zero, List.set_cons_succ]
        refine wpAnyH_take (i := 14) (v := ?_) (by simp only [List.getElem?_toArray, List.getElem?_cons_succ, List.getElem?_cons_zero]; rfl) (by kernel_rfl) (by kernel_rfl) (by kernel_rfl) (by exact fun _ _ _ h => h) (Or.inl ⟨by rfl, ?_⟩) (by assumption) ?_
        rotate_left
        · intro w' hSw; obtain ⟨e0, e1⟩ := hSw
          go_simp; try with_reducible rfl
        try simp only [Act.put, List.setIfInBounds_toArray, List.set_cons_zero, List.set_cons_succ]
        refine wpAnyH_ready (rs := [15]) (by kernel_rfl) (by simp) ?_
        refine AllReadyH.cons (by simp only [List.getElem?_toArray, List.getElem?_cons_succ, List.getElem?_cons_zero]; rfl) (fun K hK => ?_) AllReadyH.nil
        go_simp
        obtain ⟨wA, hwA⟩ : ∃ wA : World, wA = (World.alloc wr (.cells #[.int .i64 x] 3)).drew := ⟨_, rfl⟩
        have rb : Below wr.heap.size wr wA := by rw [hwA]; exact ((Below.refl _ _).alloc (Nat.le_refl _) _).drew
        have hSA : wA.cell? ⟨g, go + (m + 1) * 5 + 3, none⟩ = some (.int .i64 dp) ∧ wA.cell? ⟨g, go + m * 5 + 4, none⟩ = some (.int .i64 ar) := ⟨bkeep rb hHeld.1, bkeep rb hHeld.2⟩
        have HOA := Lib.hid (own_later HOwn.out rb)
        have HBA : Hid (Below w.heap.size w wA) := HB.out.trans (rb.mono hzr)
        have hyA : RowAt wA (.slice (some ⟨wr.heap.size, 0, none⟩) 1 1) (ints [x]) := by
          have h := World.ownsRow_lit (base := 0) (e := 3) (size := 1) wr #[.int .i64 x] 1 (Nat.zero_le _) (by decide) (by simp)
          have h2 : wA.ownsRow 0 3 1 (.slice (some ⟨wr.heap.size, 0, none⟩) 1 1) 1 (ints [x]) := by rw [hwA]; simpa [ints] using own_later h (Below.refl _ _).drew
          exact rowAt_own h2
        have HYA := Lib.hid hyA
        have hzA : wr.heap.size ≤ wA.heap.size := rb.size
        rw [← hwA]
        clear rb hwA hyA
        refine hK.out _ _ hSA (fun hH15 => ?_)
        clear hK K
        try simp only [Act.put, List.setIfInBounds_toArray, List.set_cons_zero, List.set_cons_succ]
        refine wpAnyH_ready (rs := [16]) (by kernel_rfl) (by simp) ?_
        refine AllReadyH.cons (by simp only [List.getElem?_toArray, List.getElem?_cons_succ, List.getElem?_cons_zero]; rfl) (fun K hK => ?_) AllReadyH.nil
        obtain ⟨vR, wR, hrun, hown, hgr, hloc⟩ := run_append_ints wA (w.heap.size + 1) (slT cs ch m).length (.slice oa (slT cs ch m).length oc) (slT cs ch m) HOA.out wr.heap.size 0 1 [x] HYA.out (by simp; omega) (by omega)
        have rb : Below (w.heap.size + 1) wA wR := ⟨hgr.os, hgr.tape, hgr.output, hgr.size, fun q hq => hgr.block q (by omega) (fun e => by have := (HOA.out.lt q e.symm).1; omega)⟩
        have hSR : wR.cell? ⟨g, go + (m + 1) * 5 + 3, none⟩ = some (.int .i64 dp) ∧ wR.cell? ⟨g, go + m * 5 + 4, none⟩ = some (.int .i64 ar) := ⟨hgr.cell hSA.1 (fun e => HFar.out g e.symm rfl), hgr.cell hSA.2 (fun e => HFar.out g e.symm rfl)⟩
        have HBR : Hid (Below w.heap.size w wR) := HBA.out.trans (rb.mono (Nat.le_succ _))
        have HOR : Hid (wR.ownsRow (w.heap.size + 1) 3 1 vR (slT cs ch (m + 1)).length (ints (slT cs ch (m + 1)))) := by
          show World.ownsRow _ _ _ _ _ _ _
          rw [HSucc.out, List.length_append]; exact hown
        have hzR : w.heap.size < wR.heap.size := by have := rb.size; omega
        simp only [List.length_singleton] at hrun
        refine step_append_run rfl (.tmp 23) (.tmp 38) 51 rfl rfl rfl hrun ?_
        clear hrun hown hgr hloc rb
        refine hK.out _ _ hSR (fun hH16 => ?_)
        clear hK K
        try simp only [Act.put, List.setIfInBounds_toArray, List.set_cons_zero, List.set_cons_succ]
        refine wpAnyH_take (i := 17) (v := ?_) (by simp only [List.getElem?_toArray, List.getElem?_cons_succ, List.getElem?_cons_zero]; rfl) (by kernel_rfl) (by kernel_rfl) (by kernel_rfl) (by exact fun _ _ _ h => h) (Or.inl ⟨by rfl, ?_⟩) (by assumption) ?_
        rotate_left
        · intro w' hSw; obtain ⟨e0, e1⟩ := hSw
          go_simp; try with_reducible rfl
        try simp only [Act.put, List.setIfInBounds_toArray, List.set_cons_zero, List.set_cons_succ]
        refine wpAnyH_done (by kernel_rfl) ?_ _
        go_wp2_with fail
        go_roundw
        case rel => exact ⟨m + 1, by omega, by go_num, HOR, HBR, hzR⟩
        case measure => simp [RowKit.intOf]; omega
      · obtain rfl : m = n := by omega
        have hk2 : ¬ (m : Int) + 1 < (cs.length : Int) := by omega
        have HF : Hid (slT cs ch m = slF t ch cs) := by show _ = _; rw [HN.out, show cs.length - 1 = m by omega]
        go_wp2_with fail
        go_ret2
        exact ⟨⟨_, rfl, by rw [← HF.out]; exact own_base HOwn.out (Nat.le_succ _)⟩, HB.out⟩

theorem bothSlackOf (t : TTD) (hf : TTFits t) (hs : TTSmall t) (ch : Int) (w1 : (Lit.int .i64 ch).wf = true) (cs : List LegD) (hfl : LegsFit cs) (hsl : LegsSmall cs) : ∃ (r : List Int) (b : Bool), IntsSmall r ∧ ∀ (v lv : Value) (w : World), TTAt w v t → LegsAt w lv cs →
    Calls Try.prog 24 #[v, .int .i64 ch, lv] w (fun e w' => ∃ v', e = .returned (.tuple #[v', .bool b]) ∧ IntsIn w.heap.size w'.heap.size w' v' r ∧ Below w.heap.size w w') ∧
    Calls Try.prog 25 #[v, .int .i64 ch, lv] w (fun e w' => ∃ v', e = .returned (.tuple #[v', .bool b]) ∧ IntsIn w.heap.size w'.heap.size w' v' r ∧ Below w.heap.size w w') :=
  ⟨_, _, slF_small t ch cs, fun v lv w h hl => ⟨(specSl_any v lv t ch cs w h hl hf hs hsl).mono fun _ _ => st_in, (implSl_any v lv t ch cs w h hl hf hs hsl hfl).mono fun _ _ => st_in⟩⟩
end Go.Proofs.Ytmcpafflnccfaaa
