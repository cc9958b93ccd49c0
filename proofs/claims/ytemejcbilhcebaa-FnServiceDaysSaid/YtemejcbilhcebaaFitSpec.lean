import Derived.Test.YtemejcbilhcebaaFitImpl
import Derived.Test.YtemejcbilhcebaaCalRise
namespace Go.Proofs.Ytemejcbilhcebaa
open Go.RowKit
set_option linter.unusedVariables false
attribute [local go_sem] Oper.semAt_some

theorem FitBox.setW {w : World} {l b : Nat} {c : CalD} {av rv : Value} (h : FitBox w l b c av rv) (z : Int) : FitBox (w.setCell ⟨b, 2, none⟩ (.int .i64 z)) l b ⟨c.frm, c.too, z, c.added, c.removed⟩ av rv := by
  obtain ⟨c0, c1, c2, c3, c4⟩ := h.box
  refine ⟨⟨?_, ?_, ?_, ?_, ?_⟩, fun i => by simpa using h.free i, own_other h.adds h.offA _, own_other h.rems h.offR _, h.apart, h.offA, h.offR⟩
  · rw [set_other (by decide)]; exact c0
  · rw [set_other (by decide)]; exact c1
  · exact set_same c2
  · rw [set_other (by decide)]; exact c3
  · rw [set_other (by decide)]; exact c4

def usuC (lo hi : Int) (days : List Int) (m : Nat) : CalD := ⟨lo, hi, usu days lo (fitN lo hi) m, [], []⟩
theorem fitReg {lo hi : Int} {days : List Int} {k n : Nat} (h : lo ≤ lo + (k : Int) ∧ lo + (k : Int) ≤ hi) : regB (fitTo lo hi days n) (lo + (k : Int)) = wdB (fitW lo hi days) (lo + (k : Int)) := by
  rw [Bool.eq_iff_iff, regB_iff]; exact ⟨fun g => g.2, fun g => ⟨h, g⟩⟩

theorem setOut (w : World) (b i : Nat) (u : Value) : Out b (b + 1) w (w.setCell ⟨b, i, none⟩ u) := (Out.refl _ _ _).setCell (p := ⟨b, i, none⟩) (Nat.le_refl _) (Nat.lt_succ_self _) u
theorem fitBox_lit (w1 : World) (f t z : Int) (ty : TypeId) : FitBox (((w1.alloc (.cells #[] 3)).alloc (.cells #[] 3)).alloc (.cells #[.int .i64 f, .int .i64 t, .int .i64 z, .slice (some ⟨w1.heap.size, 0, none⟩) 0 0, .slice (some ⟨w1.heap.size + 1, 0, none⟩) 0 0] ty)) w1.heap.size (w1.heap.size + 1 + 1) ⟨f, t, z, [], []⟩ (.slice (some ⟨w1.heap.size, 0, none⟩) 0 0) (.slice (some ⟨w1.heap.size + 1, 0, none⟩) 0 0) := by
  have h1 := World.ownsRow_lit (base := w1.heap.size) (e := 3) (size := 1) w1 #[] 0 (by simp) (by decide) (by simp)
  have h2 := World.ownsRow_lit (base := w1.heap.size) (e := 3) (size := 1) (w1.alloc (.cells #[] 3)) #[] 0 (by simp) (by decide) (by simp)
  have hb := calBox_new ((w1.alloc (.cells #[] 3)).alloc (.cells #[] 3)) ⟨f, t, z, [], []⟩ (.slice (some ⟨w1.heap.size, 0, none⟩) 0 0) (.slice (some ⟨w1.heap.size + 1, 0, none⟩) 0 0) ty
  simp only [World.size_alloc] at h1 h2 hb
  refine ⟨hb, fun o => by go_simp, ?_, ?_, .inr (by simp [Value.ownBlock]), by simp [Value.ownBlock]; omega, by simp [Value.ownBlock]⟩
  · exact own_later (own_later (by simpa [ints] using h1) ((Below.refl _ _).alloc (Nat.le_refl _) _)) ((Below.refl _ _).alloc (Nat.le_refl _) _)
  · exact own_later (by simpa [ints] using h2) ((Below.refl _ _).alloc (Nat.le_refl _) _)
set_option maxRecDepth 100000 in
set_option maxHeartbeats 4000000 in
theorem specFit_any (v : Value) (lo hi : Int) (days : List Int) (w : World) (hr : RowAt w v (ints days)) (w0 : (Lit.int .i64 lo).wf = true) (w1 : (Lit.int .i64 hi).wf = true) :
    Calls Try.prog 20 #[.int .i64 lo, .int .i64 hi, v] w fun e w' => ∃ z, e = .returned (.tuple #[z, .bool (fitB lo hi days)]) ∧ CalIn w.heap.size w'.heap.size w' z (fitAns lo hi days) ∧ Below w.heap.size w w' := by
  have HRow := Lib.hid (fun W (h : Below w.heap.size w W) => hr.below rfl h)
  obtain ⟨a, c, rfl, _⟩ := ints_open hr
  clear hr
  have HB0 : Hid (Below w.heap.size w (w.alloc (.cells #[.int .i64 0, .int .i64 0, .int .i64 0, .slice none 0 0, .slice none 0 0] 46))) := (Below.refl _ _).alloc (Nat.le_refl _) _
  by_cases hd0 : 0 ≤ lo ∧ lo ≤ 3650
  rotate_left
  · have HN := Lib.hid (fitAns_no (lo := lo) (hi := hi) (days := days) fun h => hd0 ⟨h.1.1.1, by have := h.1.1.2; omega⟩)
    have H1 := Lib.hid (dayB_no hd0)
    clear hd0 w0 w1
    go_enter Try.func20, Try.ntmps20
    go_wp2_with fail
    go_at_call 71
    refine (l3Day_any _ _).mono ?_
    rintro e w' ⟨rfl, rfl⟩
    rw [H1.out]
    go_wp2_with fail
    refine bodyPost_ret (v := .tuple #[.agg #[.int .i64 0, .int .i64 0, .int .i64 0, .slice none 0 0, .slice none 0 0], .bool false]) (by simp only [results, Try.results20]; go_simp) rfl ⟨_, by rw [HN.out.2], by rw [HN.out.1]; exact calZ_in _ _ _, HB0.out⟩
  have HD0 := Lib.hid (dayB_yes hd0)
  by_cases hd1 : 0 ≤ hi ∧ hi ≤ 3650
  rotate_left
  · have HN := Lib.hid (fitAns_no (lo := lo) (hi := hi) (days := days) fun h => hd1 ⟨by have := h.1.1; omega, h.1.1.2.2⟩)
    have H1 := Lib.hid (dayB_no hd1)
    clear hd1 w0 w1
    go_enter Try.func20, Try.ntmps20
    go_wp2_with fail
    go_at_call 71
    refine (l3Day_any _ _).mono ?_
    rintro e w' ⟨rfl, rfl⟩
    rw [HD0.out]
    go_wp2_with fail
    go_at_call 71
    refine (l3Day_any _ _).mono ?_
    rintro e w' ⟨rfl, rfl⟩
    rw [H1.out]
    go_wp2_with fail
    refine bodyPost_ret (v := .tuple #[.agg #[.int .i64 0, .int .i64 0, .int .i64 0, .slice none 0 0, .slice none 0 0], .bool false]) (by simp only [results, Try.results20]; go_simp) rfl ⟨_, by rw [HN.out.2], by rw [HN.out.1]; exact calZ_in _ _ _, HB0.out⟩
  have HD1 := Lib.hid (dayB_yes hd1)
  obtain ⟨n1, n1'⟩ := hd0
  obtain ⟨n2', n3⟩ := hd1
  clear w0 w1
  by_cases h2 : 0 ≤ hi - lo ∧ hi - lo ≤ 200
  rotate_left
  · have HN := Lib.hid (fitAns_no (lo := lo) (hi := hi) (days := days) fun h => h2 ⟨by have := h.1.1; omega, h.1.2.1⟩)
    have H1 := Lib.hid h2
    clear h2
    go_enter Try.func20, Try.ntmps20
    go_wp2_with fail
    go_at_call 71
    refine (l3Day_any _ _).mono ?_
    rintro e w' ⟨rfl, rfl⟩
    rw [HD0.out]
    go_wp2_with fail
    go_at_call 71
    refine (l3Day_any _ _).mono ?_
    rintro e w' ⟨rfl, rfl⟩
    rw [HD1.out]
    go_wp2_with fail
    go_at_call 49
    refine (l1In_no _ _ _ _ H1.out).mono ?_
    rintro e w' ⟨rfl, rfl⟩
    go_wp2_with fail
    refine bodyPost_ret (v := .tuple #[.agg #[.int .i64 0, .int .i64 0, .int .i64 0, .slice none 0 0, .slice none 0 0], .bool false]) (by simp only [results, Try.results20]; go_simp) rfl ⟨_, by rw [HN.out.2], by rw [HN.out.1]; exact calZ_in _ _ _, HB0.out⟩
  have H2 := Lib.hid h2
  have hle : lo ≤ hi := by omega
  have HRs := Lib.hid (l1Rising_any _ days lo hi _ (HRow.out _ HB0.out))
  have HZb0 := Lib.hid (calBox_new w calZ (.slice none 0 0) (.slice none 0 0) 46)
  obtain ⟨i0, hi', iz0, iz1, iz2⟩ := info_parts infoInt
  go_enter Try.func20, Try.ntmps20
  go_wp2_with fail
  go_at_call 71
  refine (l3Day_any _ _).mono ?_
  rintro e w' ⟨rfl, rfl⟩
  rw [HD0.out]
  go_wp2_with fail
  go_at_call 71
  refine (l3Day_any _ _).mono ?_
  rintro e w' ⟨rfl, rfl⟩
  rw [HD1.out]
  go_wp2_with fail
  go_at_call 49
  refine (l1In_yes _ _ _ _ H2.out).mono ?_
  rintro e w' ⟨rfl, rfl⟩
  go_wp2_with fail
  go_at_call 72
  refine HRs.out.mono ?_
  rintro e w1 ⟨rfl, hb1⟩
  have HB1 : Hid (Below w.heap.size w w1) := HB0.out.trans (hb1.mono (by simp))
  have hz1 : w.heap.size < w1.heap.size := by have := hb1.size; simp at this; omega
  have HZb := Lib.hid (HZb0.out.keep hb1)
  have HZf : Hid (∀ o, w1.frozen? ⟨w.heap.size, o, none⟩ = false) := fun o => fkeep hb1 (by simp) (by go_simp)
  clear hb1 HRs HZb0 HB0
  obtain ⟨r0, r1, r2, r3, r4⟩ := HZb.out
  have r0 : w1.cell? ⟨w.heap.size, 0, none⟩ = some (.int .i64 0) := r0
  have r1 : w1.cell? ⟨w.heap.size, 1, none⟩ = some (.int .i64 0) := r1
  have r2 : w1.cell? ⟨w.heap.size, 2, none⟩ = some (.int .i64 0) := r2
  have hf := HZf.out
  by_cases hri : Rise days lo hi
  rotate_left
  · have HN := Lib.hid (fitAns_no (lo := lo) (hi := hi) (days := days) fun h => hri h.1.2.2)
    rw [riseB_no hri]
    clear hri
    go_wp2_with fail
    refine bodyPost_ret (v := .tuple #[.agg #[.int .i64 0, .int .i64 0, .int .i64 0, .slice none 0 0, .slice none 0 0], .bool false]) (by simp only [results, Try.results20]; go_simp) rfl ⟨_, by rw [HN.out.2], by rw [HN.out.1]; exact calZ_in _ _ _, (((((HB1.out.setCell (p := ⟨w.heap.size, 0, none⟩) (Nat.le_refl _) _).setCell (p := ⟨w.heap.size, 1, none⟩) (Nat.le_refl _) _).setCell (p := ⟨w.heap.size, 2, none⟩) (Nat.le_refl _) _).setCell (p := ⟨w.heap.size, 3, none⟩) (Nat.le_refl _) _).setCell (p := ⟨w.heap.size, 4, none⟩) (Nat.le_refl _) _)⟩
  rw [riseB_yes hri]
  have HRi := Lib.hid hri
  clear hri r0 r1 r2 r3 r4 hf
  go_wp2_with fail
  go_loopw [9] (fun i wr => ∃ m : Nat, m ≤ 7 ∧ i = .int .i64 m ∧ Hid (FitBox wr w1.heap.size (w1.heap.size + 1 + 1) (usuC lo hi days m) (.slice (some ⟨w1.heap.size, 0, none⟩) 0 0) (.slice (some ⟨w1.heap.size + 1, 0, none⟩) 0 0)) ∧ Hid (CalBox wr w.heap.size calZ (.slice none 0 0) (.slice none 0 0)) ∧ Hid (∀ o, wr.frozen? ⟨w.heap.size, o, none⟩ = false) ∧ Hid (Below w.heap.size w wr) ∧ w1.heap.size + 3 ≤ wr.heap.size) (fun i _ => 7 - (RowKit.intOf i).toNat)
  case atStart =>
    have hb : Below w1.heap.size w1 (((w1.alloc (.cells #[] 3)).alloc (.cells #[] 3)).alloc (.cells #[.int .i64 lo, .int .i64 hi, .int .i64 0, .slice (some ⟨w1.heap.size, 0, none⟩) 0 0, .slice (some ⟨w1.heap.size + 1, 0, none⟩) 0 0] 46)) := (((Below.refl _ _).alloc (Nat.le_refl _) _).alloc (by simp) _).alloc (by simp; omega) _
    exact ⟨0, by omega, rfl, fitBox_lit w1 lo hi 0 _, HZb.out.keep hb, fun o => fkeep hb hz1 (HZf.out o), HB1.out.trans (hb.mono (by omega)), by simp⟩
  case round =>
    clear HZb HZf HB1
    obtain ⟨m, hm, rfl, HF, HZb, HZf, HB, hz⟩ := hrel
    have HIs := Lib.hid (fun d => l1Has_any _ days d wr (HRow.out _ HB.out))
    by_cases hm7 : m < 7
    rotate_left
    · obtain rfl : m = 7 := by omega
      have HF0 : Hid (FitBox wr w1.heap.size (w1.heap.size + 1 + 1) (fitTo lo hi days 0) (.slice (some ⟨w1.heap.size, 0, none⟩) 0 0) (.slice (some ⟨w1.heap.size + 1, 0, none⟩) 0 0)) := HF.out
      clear HF HIs
      go_wp2_with fail
      go_loopw [13] (fun i wr => ∃ k : Nat, i = .int .i64 (lo + (k : Int)) ∧ lo + (k : Int) ≤ hi + 1 ∧ (∃ na nr a1 c1 a2 c2, na ≤ k ∧ nr ≤ k ∧ Hid (na = (fitTo lo hi days k).added.length) ∧ Hid (nr = (fitTo lo hi days k).removed.length) ∧ Hid (FitBox wr w1.heap.size (w1.heap.size + 1 + 1) (fitTo lo hi days k) (.slice a1 na c1) (.slice a2 nr c2))) ∧ Hid (CalBox wr w.heap.size calZ (.slice none 0 0) (.slice none 0 0)) ∧ Hid (∀ o, wr.frozen? ⟨w.heap.size, o, none⟩ = false) ∧ Hid (Below w.heap.size w wr) ∧ w1.heap.size + 3 ≤ wr.heap.size) (fun i _ => (3651 - RowKit.intOf i).toNat)
      case atStart => exact ⟨0, by simp, by omega, ⟨0, 0, _, _, _, _, by omega, by omega, rfl, rfl, HF0.out⟩, HZb.out, HZf.out, HB.out, hz⟩
      case round =>
        clear HF0 HZb HZf HB hz
        obtain ⟨k, rfl, hk, ⟨na, nr, a1, c1, a2, c2, hna, hnr, HNA, HNR, HF⟩, HZb, HZf, HB, hz⟩ := hrel
        by_cases hlt : lo + (k : Int) ≤ hi
        rotate_left
        · have HE : Hid (fitTo lo hi days k = fitC lo hi days) := by show _ = fitTo _ _ _ _; rw [show fitN lo hi = k by unfold fitN; omega]
          have hgt : hi < lo + (k : Int) := by omega
          have HV := Lib.hid (l3Good_any _ _ wr HF.out.calAt)
          obtain ⟨p0, p1, p2, p3, p4⟩ := HF.out.box
          have p0 : wr.cell? ⟨w1.heap.size + 1 + 1, 0, none⟩ = some (.int .i64 lo) := p0
          have p1 : wr.cell? ⟨w1.heap.size + 1 + 1, 1, none⟩ = some (.int .i64 hi) := p1
          have p2 : wr.cell? ⟨w1.heap.size + 1 + 1, 2, none⟩ = some (.int .i64 (fitW lo hi days)) := p2
          clear hlt
          go_wp2_with fail
          go_at_call 75
          refine HV.out.mono ?_
          rintro e w2 ⟨rfl, hb2⟩
          have HB2 : Hid (Below w.heap.size w w2) := HB.out.trans (hb2.mono (by omega))
          have HF2 := Lib.hid (HF.out.keep hb2)
          have HZb2 := Lib.hid (HZb.out.keep hb2)
          have HZf2 : Hid (∀ o, w2.frozen? ⟨w.heap.size, o, none⟩ = false) := fun o => fkeep hb2 (by show w.heap.size < _; omega) (HZf.out o)
          have hz2 : w1.heap.size + 3 ≤ w2.heap.size := by have := hb2.size; omega
          clear hb2 p0 p1 p2 p3 p4
          obtain ⟨r0, r1, r2, r3, r4⟩ := HZb2.out
          have r0 : w2.cell? ⟨w.heap.size, 0, none⟩ = some (.int .i64 0) := r0
          have r1 : w2.cell? ⟨w.heap.size, 1, none⟩ = some (.int .i64 0) := r1
          have r2 : w2.cell? ⟨w.heap.size, 2, none⟩ = some (.int .i64 0) := r2
          have hf := HZf2.out
          by_cases hg : CalGood (fitTo lo hi days k)
          rotate_left
          · rw [calB_no hg]
            have HN := Lib.hid (fitAns_no (lo := lo) (hi := hi) (days := days) fun h => hg (by rw [HE.out]; exact h.2))
            clear hg
            go_wp2_with fail
            refine bodyPost_ret (v := .tuple #[.agg #[.int .i64 0, .int .i64 0, .int .i64 0, .slice none 0 0, .slice none 0 0], .bool false]) (by simp only [results, Try.results20]; go_simp) rfl ⟨_, by rw [HN.out.2], by rw [HN.out.1]; exact calZ_in _ _ _, ((((HB2.out.setCell (p := ⟨w.heap.size, 0, none⟩) (Nat.le_refl _) _).setCell (p := ⟨w.heap.size, 1, none⟩) (Nat.le_refl _) _).setCell (p := ⟨w.heap.size, 2, none⟩) (Nat.le_refl _) _).setCell (p := ⟨w.heap.size, 3, none⟩) (Nat.le_refl _) _).setCell (p := ⟨w.heap.size, 4, none⟩) (Nat.le_refl _) _⟩
          · rw [calB_yes hg]
            have HN := Lib.hid (fitAns_yes (lo := lo) (hi := hi) (days := days) ⟨⟨⟨n1, hle, n3⟩, h2.2, HRi.out⟩, by rw [← HE.out]; exact hg⟩)
            clear hg
            obtain ⟨p0, p1, p2, p3, p4⟩ := HF2.out.box
            have p0 : w2.cell? ⟨w1.heap.size + 1 + 1, 0, none⟩ = some (.int .i64 lo) := p0
            have p1 : w2.cell? ⟨w1.heap.size + 1 + 1, 1, none⟩ = some (.int .i64 hi) := p1
            have p2 : w2.cell? ⟨w1.heap.size + 1 + 1, 2, none⟩ = some (.int .i64 (fitW lo hi days)) := p2
            go_wp2_with fail
            refine bodyPost_ret (v := .tuple #[.agg #[.int .i64 lo, .int .i64 hi, .int .i64 (fitW lo hi days), .slice a1 na c1, .slice a2 nr c2], .bool true]) (by simp only [results, Try.results20]; go_simp; exact ⟨rfl, rfl, rfl⟩) rfl ⟨_, by rw [HN.out.2], ?_, ((((HB2.out.setCell (p := ⟨w.heap.size, 0, none⟩) (Nat.le_refl _) _).setCell (p := ⟨w.heap.size, 1, none⟩) (Nat.le_refl _) _).setCell (p := ⟨w.heap.size, 2, none⟩) (Nat.le_refl _) _).setCell (p := ⟨w.heap.size, 3, none⟩) (Nat.le_refl _) _).setCell (p := ⟨w.heap.size, 4, none⟩) (Nat.le_refl _) _⟩
            rw [HN.out.1, ← HE.out]
            exact (HF2.out.calIn.out ((((((Out.refl w.heap.size (w.heap.size + 1) w2).setCell (p := ⟨w.heap.size, 0, none⟩) (Nat.le_refl _) (Nat.lt_succ_self _) _).setCell (p := ⟨w.heap.size, 1, none⟩) (Nat.le_refl _) (Nat.lt_succ_self _) _).setCell (p := ⟨w.heap.size, 2, none⟩) (Nat.le_refl _) (Nat.lt_succ_self _) _).setCell (p := ⟨w.heap.size, 3, none⟩) (Nat.le_refl _) (Nat.lt_succ_self _) _).setCell (p := ⟨w.heap.size, 4, none⟩) (Nat.le_refl _) (Nat.lt_succ_self _) _) (.inr (by omega))).base (by omega) (by simp [World.setCell])
        have HIs := Lib.hid (fun W (h : Below w.heap.size w W) => l1Has_any _ days (lo + (k : Int)) W (HRow.out W h))
        have HReg := Lib.hid (l3Regular_any _ _ (lo + (k : Int)) wr HF.out.calAt (fitTo_num ⟨n1, hle, n3⟩ k))
        rw [fitReg (by omega)] at HReg
        obtain ⟨p0, p1, p2, p3, p4⟩ := HF.out.box
        have p0 : wr.cell? ⟨w1.heap.size + 1 + 1, 0, none⟩ = some (.int .i64 lo) := p0
        have p1 : wr.cell? ⟨w1.heap.size + 1 + 1, 1, none⟩ = some (.int .i64 hi) := p1
        have p2 : wr.cell? ⟨w1.heap.size + 1 + 1, 2, none⟩ = some (.int .i64 (fitW lo hi days)) := p2
        have hf2 := HF.out.free
        by_cases hin : inB (lo + (k : Int)) days = true
        · by_cases hwd : wdB (fitW lo hi days) (lo + (k : Int)) = true
          · have HT := Lib.hid (fitTo_same (hin.trans hwd.symm))
            rw [hwd] at HReg
            have HIn := Lib.hid hin
            clear hin hwd
            go_wp2_with fail
            go_at_call 73
            refine (HIs.out _ HB.out).mono ?_
            rintro e w' ⟨rfl, rfl⟩
            rw [HIn.out]
            go_wp2_with fail
            go_at_call 74
            refine HReg.out.mono ?_
            rintro e w2 ⟨rfl, hb2⟩
            have HB2 : Hid (Below w.heap.size w w2) := HB.out.trans (hb2.mono (by omega))
            have HF2 := Lib.hid (HF.out.keep hb2)
            have HZb2 := Lib.hid (HZb.out.keep hb2)
            have HZf2 : Hid (∀ o, w2.frozen? ⟨w.heap.size, o, none⟩ = false) := fun o => fkeep hb2 (by show w.heap.size < _; omega) (HZf.out o)
            have hz2 : w1.heap.size + 3 ≤ w2.heap.size := by have := hb2.size; omega
            clear hb2 p0 p1 p2 p3 p4 hf2
            obtain ⟨p0, p1, p2, p3, p4⟩ := HF2.out.box
            have p0 : w2.cell? ⟨w1.heap.size + 1 + 1, 0, none⟩ = some (.int .i64 lo) := p0
            have p1 : w2.cell? ⟨w1.heap.size + 1 + 1, 1, none⟩ = some (.int .i64 hi) := p1
            have p2 : w2.cell? ⟨w1.heap.size + 1 + 1, 2, none⟩ = some (.int .i64 (fitW lo hi days)) := p2
            have hf2 := HF2.out.free
            go_wp2_with fail
            go_at_call 73
            refine (HIs.out _ HB2.out).mono ?_
            rintro e w' ⟨rfl, rfl⟩
            rw [HIn.out]
            go_wp2_with fail
            refine ⟨?_, ?measure⟩
            repeat apply Exists.intro
            refine ⟨?rel, rfl⟩
            case rel => exact ⟨k + 1, by rw [show lo + ((k + 1 : Nat) : Int) = lo + (k : Int) + 1 by omega], by omega, ⟨na, nr, a1, c1, a2, c2, by omega, by omega, by rw [HT.out]; exact HNA.out, by rw [HT.out]; exact HNR.out, by rw [HT.out]; exact HF2.out⟩, HZb2.out, HZf2.out, HB2.out, hz2⟩
            case measure => simp [RowKit.intOf]; omega
          · have hwd' : wdB (fitW lo hi days) (lo + (k : Int)) = false := by simpa using hwd
            have HT := Lib.hid (fitTo_add hin hwd')
            rw [hwd'] at HReg
            have HIn := Lib.hid hin
            clear hin hwd hwd'
            go_wp2_with fail
            go_at_call 73
            refine (HIs.out _ HB.out).mono ?_
            rintro e w' ⟨rfl, rfl⟩
            rw [HIn.out]
            go_wp2_with fail
            go_at_call 74
            refine HReg.out.mono ?_
            rintro e w2 ⟨rfl, hb2⟩
            have HB2 : Hid (Below w.heap.size w w2) := HB.out.trans (hb2.mono (by omega))
            have HF2 := Lib.hid (HF.out.keep hb2)
            have HZb2 := Lib.hid (HZb.out.keep hb2)
            have HZf2 : Hid (∀ o, w2.frozen? ⟨w.heap.size, o, none⟩ = false) := fun o => fkeep hb2 (by show w.heap.size < _; omega) (HZf.out o)
            have hz2 : w1.heap.size + 3 ≤ w2.heap.size := by have := hb2.size; omega
            clear hb2 p0 p1 p2 p3 p4 hf2
            obtain ⟨p0, p1, p2, p3, p4⟩ := HF2.out.box
            have p0 : w2.cell? ⟨w1.heap.size + 1 + 1, 0, none⟩ = some (.int .i64 lo) := p0
            have p1 : w2.cell? ⟨w1.heap.size + 1 + 1, 1, none⟩ = some (.int .i64 hi) := p1
            have p2 : w2.cell? ⟨w1.heap.size + 1 + 1, 2, none⟩ = some (.int .i64 (fitW lo hi days)) := p2
            have hf2 := HF2.out.free
            have HO : Hid (w2.ownsRow w1.heap.size 3 1 (.slice a1 na c1) na (ints (fitTo lo hi days k).added)) := by show World.ownsRow _ _ _ _ _ _ _; have := HF2.out.adds; rw [← HNA.out] at this; exact this
            go_wp2_with (at_builtin; refine wpList_append_own_at _ rfl _ _ 34 rfl w1.heap.size 3 i0 (.int .i64 0) 1 8 Try.underlying34 hi' iz0 iz1 iz2 rfl (by decide) (.slice a1 na c1) na _ rfl (HO.out.alloc _) ⟨w2.heap.size, 0, none⟩ 1 1 [.int .i64 (lo + (k : Int))] rfl rfl ?c1 ?c2 ?c3 ?c4 ?c5 ?_)
            case c1 => exact one_new _ _
            case c2 => exact fit_one w2 _ (t := 3)
            case c3 => unfold maxLen; omega
            case c4 => omega
            case c5 => simp; omega
            intro v' w4 hown' hgrow _ hloc
            obtain ⟨⟨q0, q1, q2, q3, q4⟩, hf4⟩ := HF2.out.mid _ hgrow HF2.out.offA
            have HFN := Lib.hid (HF2.out.addA (x := lo + (k : Int)) (by omega) (by rw [← HNA.out]; exact hown') hgrow hloc)
            have hrl : ∀ g, Value.ownBlock (.slice a1 na c1) = some g → w1.heap.size ≤ g := fun g hg => (HF2.out.adds.lt g hg).1
            have HBN := Lib.hid (fitBox_below (W := w) (B := w.heap.size) (b := w1.heap.size + 1 + 1) (i := 3) HB2.out (by omega) hgrow (fun g hg => by have := hrl g hg; omega) (by omega) v')
            have HON : Hid (Out w1.heap.size (w1.heap.size + (w4.heap.size + 1)) w2 (w4.setCell ⟨w1.heap.size + 1 + 1, 3, none⟩ v')) := ⟨fitBox_below (Below.refl _ _) (by omega) hgrow hrl (by omega) v', fun b hb hl => by have := hgrow.size; simp at this; omega⟩
            have hzN : w1.heap.size + 3 ≤ w4.heap.size := by have := hgrow.size; simp at this; omega
            obtain ⟨av', cv', rfl⟩ := own_shape hown'
            clear hown' hgrow hloc hrl
            go_wp2_with fail
            refine ⟨?_, ?measure⟩
            repeat apply Exists.intro
            refine ⟨?rel, rfl⟩
            case rel =>
              refine ⟨k + 1, by rw [show lo + ((k + 1 : Nat) : Int) = lo + (k : Int) + 1 by omega], by omega, ⟨na + 1, nr, av', cv', a2, c2, by omega, by omega, ?_, ?_, ?_⟩, calBox_out HZb2.out HON.out (.inl hz1), free_out HZb2.out HZf2.out HON.out (.inl hz1), HBN.out, by rw [size_setCell']; exact hzN⟩
              · show _ = _; rw [HT.out]; simp [HNA.out]
              · show _ = _; rw [HT.out]; simp [HNR.out]
              · show FitBox _ _ _ _ _ _; rw [HT.out]; exact HFN.out
            case measure => simp [RowKit.intOf]; omega
        · have hin' : inB (lo + (k : Int)) days = false := by simpa using hin
          have HIn := Lib.hid hin'
          clear hin
          by_cases hwd : wdB (fitW lo hi days) (lo + (k : Int)) = true
          · have HT := Lib.hid (fitTo_rem hin' hwd)
            rw [hwd] at HReg
            clear hin' hwd
            go_wp2_with fail
            go_at_call 73
            refine (HIs.out _ HB.out).mono ?_
            rintro e w' ⟨rfl, rfl⟩
            rw [HIn.out]
            go_wp2_with fail
            go_at_call 73
            refine (HIs.out _ HB.out).mono ?_
            rintro e w' ⟨rfl, rfl⟩
            rw [HIn.out]
            go_wp2_with fail
            go_at_call 74
            refine HReg.out.mono ?_
            rintro e w2 ⟨rfl, hb2⟩
            have HB2 : Hid (Below w.heap.size w w2) := HB.out.trans (hb2.mono (by omega))
            have HF2 := Lib.hid (HF.out.keep hb2)
            have HZb2 := Lib.hid (HZb.out.keep hb2)
            have HZf2 : Hid (∀ o, w2.frozen? ⟨w.heap.size, o, none⟩ = false) := fun o => fkeep hb2 (by show w.heap.size < _; omega) (HZf.out o)
            have hz2 : w1.heap.size + 3 ≤ w2.heap.size := by have := hb2.size; omega
            clear hb2 p0 p1 p2 p3 p4 hf2
            obtain ⟨p0, p1, p2, p3, p4⟩ := HF2.out.box
            have p0 : w2.cell? ⟨w1.heap.size + 1 + 1, 0, none⟩ = some (.int .i64 lo) := p0
            have p1 : w2.cell? ⟨w1.heap.size + 1 + 1, 1, none⟩ = some (.int .i64 hi) := p1
            have p2 : w2.cell? ⟨w1.heap.size + 1 + 1, 2, none⟩ = some (.int .i64 (fitW lo hi days)) := p2
            have hf2 := HF2.out.free
            have HO : Hid (w2.ownsRow w1.heap.size 3 1 (.slice a2 nr c2) nr (ints (fitTo lo hi days k).removed)) := by show World.ownsRow _ _ _ _ _ _ _; have := HF2.out.rems; rw [← HNR.out] at this; exact this
            go_wp2_with (at_builtin; refine wpList_append_own_at _ rfl _ _ 34 rfl w1.heap.size 3 i0 (.int .i64 0) 1 8 Try.underlying34 hi' iz0 iz1 iz2 rfl (by decide) (.slice a2 nr c2) nr _ rfl (HO.out.alloc _) ⟨w2.heap.size, 0, none⟩ 1 1 [.int .i64 (lo + (k : Int))] rfl rfl ?c1 ?c2 ?c3 ?c4 ?c5 ?_)
            case c1 => exact one_new _ _
            case c2 => exact fit_one w2 _ (t := 3)
            case c3 => unfold maxLen; omega
            case c4 => omega
            case c5 => simp; omega
            intro v' w4 hown' hgrow _ hloc
            obtain ⟨⟨q0, q1, q2, q3, q4⟩, hf4⟩ := HF2.out.mid _ hgrow HF2.out.offR
            have HFN := Lib.hid (HF2.out.addR (x := lo + (k : Int)) (by omega) (by rw [← HNR.out]; exact hown') hgrow hloc)
            have hrl : ∀ g, Value.ownBlock (.slice a2 nr c2) = some g → w1.heap.size ≤ g := fun g hg => (HF2.out.rems.lt g hg).1
            have HBN := Lib.hid (fitBox_below (W := w) (B := w.heap.size) (b := w1.heap.size + 1 + 1) (i := 4) HB2.out (by omega) hgrow (fun g hg => by have := hrl g hg; omega) (by omega) v')
            have HON : Hid (Out w1.heap.size (w1.heap.size + (w4.heap.size + 1)) w2 (w4.setCell ⟨w1.heap.size + 1 + 1, 4, none⟩ v')) := ⟨fitBox_below (Below.refl _ _) (by omega) hgrow hrl (by omega) v', fun b hb hl => by have := hgrow.size; simp at this; omega⟩
            have hzN : w1.heap.size + 3 ≤ w4.heap.size := by have := hgrow.size; simp at this; omega
            obtain ⟨av', cv', rfl⟩ := own_shape hown'
            clear hown' hgrow hloc hrl
            go_wp2_with fail
            refine ⟨?_, ?measure⟩
            repeat apply Exists.intro
            refine ⟨?rel, rfl⟩
            case rel =>
              refine ⟨k + 1, by rw [show lo + ((k + 1 : Nat) : Int) = lo + (k : Int) + 1 by omega], by omega, ⟨na, nr + 1, a1, c1, av', cv', by omega, by omega, ?_, ?_, ?_⟩, calBox_out HZb2.out HON.out (.inl hz1), free_out HZb2.out HZf2.out HON.out (.inl hz1), HBN.out, by rw [size_setCell']; exact hzN⟩
              · show _ = _; rw [HT.out]; simp [HNA.out]
              · show _ = _; rw [HT.out]; simp [HNR.out]
              · show FitBox _ _ _ _ _ _; rw [HT.out]; exact HFN.out
            case measure => simp [RowKit.intOf]; omega
          · have hwd' : wdB (fitW lo hi days) (lo + (k : Int)) = false := by simpa using hwd
            have HT := Lib.hid (fitTo_same (hin'.trans hwd'.symm))
            rw [hwd'] at HReg
            clear hin' hwd hwd'
            go_wp2_with fail
            go_at_call 73
            refine (HIs.out _ HB.out).mono ?_
            rintro e w' ⟨rfl, rfl⟩
            rw [HIn.out]
            go_wp2_with fail
            go_at_call 73
            refine (HIs.out _ HB.out).mono ?_
            rintro e w' ⟨rfl, rfl⟩
            rw [HIn.out]
            go_wp2_with fail
            go_at_call 74
            refine HReg.out.mono ?_
            rintro e w2 ⟨rfl, hb2⟩
            have HB2 : Hid (Below w.heap.size w w2) := HB.out.trans (hb2.mono (by omega))
            have HF2 := Lib.hid (HF.out.keep hb2)
            have HZb2 := Lib.hid (HZb.out.keep hb2)
            have HZf2 : Hid (∀ o, w2.frozen? ⟨w.heap.size, o, none⟩ = false) := fun o => fkeep hb2 (by show w.heap.size < _; omega) (HZf.out o)
            have hz2 : w1.heap.size + 3 ≤ w2.heap.size := by have := hb2.size; omega
            clear hb2 p0 p1 p2 p3 p4 hf2
            obtain ⟨p0, p1, p2, p3, p4⟩ := HF2.out.box
            have p0 : w2.cell? ⟨w1.heap.size + 1 + 1, 0, none⟩ = some (.int .i64 lo) := p0
            have p1 : w2.cell? ⟨w1.heap.size + 1 + 1, 1, none⟩ = some (.int .i64 hi) := p1
            have p2 : w2.cell? ⟨w1.heap.size + 1 + 1, 2, none⟩ = some (.int .i64 (fitW lo hi days)) := p2
            have hf2 := HF2.out.free
            go_wp2_with fail
            refine ⟨?_, ?measure⟩
            repeat apply Exists.intro
            refine ⟨?rel, rfl⟩
            case rel => exact ⟨k + 1, by rw [show lo + ((k + 1 : Nat) : Int) = lo + (k : Int) + 1 by omega], by omega, ⟨na, nr, a1, c1, a2, c2, by omega, by omega, by rw [HT.out]; exact HNA.out, by rw [HT.out]; exact HNR.out, by rw [HT.out]; exact HF2.out⟩, HZb2.out, HZf2.out, HB2.out, hz2⟩
            case measure => simp [RowKit.intOf]; omega
    have hm7' : (m : Int) < 7 := by omega
    obtain ⟨wo, rfl⟩ : ∃ wo : World, wo = wr := ⟨_, rfl⟩
    go_wp2_with fail
    go_loop [10, 11, 12] (fun g al d => ∃ k : Nat, d = .int .i64 (lo + (k : Int)) ∧ lo + (k : Int) ≤ hi + 1 ∧ g = .int .i64 (giv days lo m k) ∧ al = .int .i64 (alls lo m k)) (fun _ _ d => (3651 - RowKit.intOf d).toNat)
    case atStart => exact ⟨0, by simp, by omega, rfl, rfl⟩
    case round =>
      obtain ⟨k, rfl, hk, rfl, rfl⟩ := hrel
      have HG := Lib.hid (giv_bd days lo m k)
      have HA := Lib.hid (alls_bd lo m k)
      have HSE := Lib.hid (sur_eq days lo m k)
      obtain ⟨g, HGe⟩ : ∃ g, Hid (g = giv days lo m k) := ⟨_, rfl⟩
      obtain ⟨al, HAe⟩ : ∃ al, Hid (al = alls lo m k) := ⟨_, rfl⟩
      rw [← HGe.out, ← HAe.out]
      have hg0 : 0 ≤ g := by rw [HGe.out]; exact HG.out.1
      have hg1 : g ≤ 3651 := by rw [HGe.out]; have := HG.out.2; omega
      have ha0 : 0 ≤ al := by rw [HAe.out]; exact HA.out.1
      have ha1 : al ≤ 3651 := by rw [HAe.out]; have := HA.out.2; omega
      by_cases hlt : lo + (k : Int) ≤ hi
      rotate_left
      · have hgt : hi < lo + (k : Int) := by omega
        have HE : Hid (fitN lo hi = k) := by show _ = _; unfold fitN; omega
        clear hlt
        by_cases hp : al < 2 * g
        · have hp' : 0 < sur days lo m (fitN lo hi) := by rw [HE.out, HSE.out, ← HGe.out, ← HAe.out]; omega
          have hb := usu_bd days lo (fitN lo hi) m
          have HY : Hid (usu days lo (fitN lo hi) (m + 1) = bits .or .i64 (usu days lo (fitN lo hi) m) (2 ^ m)) := by show _ = _; rw [or_pow m hm7 _ hb.1 hb.2]; exact usu_yes hp'
          obtain ⟨m1, HM1⟩ : ∃ m1 : Nat, Hid (m1 = m + 1) := ⟨_, rfl⟩
          have hm1 : m1 ≤ 7 := by have := HM1.out; omega
          have c2 : wo.cell? ⟨w1.heap.size + 1 + 1, 2, none⟩ = some (.int .i64 (usu days lo (fitN lo hi) m)) := HF.out.box.2.2.1
          have hf := HF.out.free
          clear hb hp'
          rcases seven hm7 with rfl | rfl | rfl | rfl | rfl | rfl | rfl
          all_goals
            go_wp2_with fail
            refine ⟨⟨m1, hm1, by rw [HM1.out]; rfl, ?_, calBox_out HZb.out (setOut wo (w1.heap.size + 1 + 1) 2 _) (.inl (by omega)), free_out HZb.out HZf.out (setOut wo (w1.heap.size + 1 + 1) 2 _) (.inl (by omega)), HB.out.setCell (p := ⟨w1.heap.size + 1 + 1, 2, none⟩) (by show w.heap.size ≤ w1.heap.size + 1 + 1; omega) _, by rw [size_setCell']; exact hz⟩, by simp [RowKit.intOf]⟩
            show FitBox _ _ _ ⟨lo, hi, usu days lo (fitN lo hi) m1, [], []⟩ _ _
            rw [HM1.out, HY.out]
            exact HF.out.setW _
        · have hp' : ¬ 0 < sur days lo m (fitN lo hi) := by rw [HE.out, HSE.out, ← HGe.out, ← HAe.out]; omega
          have HY := Lib.hid (usu_no hp')
          have hp2 : 2 * g ≤ al := by omega
          clear hp hp'
          go_wp2_with fail
          refine ⟨⟨m + 1, by omega, by go_num, ?_, HZb.out, HZf.out, HB.out, hz⟩, by simp [RowKit.intOf]; omega⟩
          show FitBox _ _ _ ⟨lo, hi, usu days lo (fitN lo hi) (m + 1), [], []⟩ _ _
          rw [HY.out]
          exact HF.out
      · have d0 : 0 ≤ lo + (k : Int) := by omega
        by_cases hmod : (lo + (k : Int)) % 7 = m
        rotate_left
        · have HY := Lib.hid (giv_other (days := days) hmod)
          have hne : ((lo + (k : Int)) % 7 != (m : Int)) = true := by simpa using hmod
          have e1 : (lo + (k : Int)).tmod 7 = (lo + (k : Int)) % 7 := Int.tmod_eq_emod_of_nonneg d0
          clear hmod
          go_wp2_with fail
          go_round
          case rel => exact ⟨k + 1, by rw [show lo + ((k + 1 : Nat) : Int) = lo + (k : Int) + 1 by omega], by omega, by rw [HY.out.1, HGe.out], by rw [HY.out.2, HAe.out]⟩
          case measure => simp [RowKit.intOf]; omega
        have hne : ((lo + (k : Int)) % 7 != (m : Int)) = false := by simpa using hmod
        by_cases hin : inB (lo + (k : Int)) days = true
        · have HY := Lib.hid (giv_in hmod hin)
          clear hmod
          go_wp2_with fail
          go_at_call 73
          refine (HIs.out _).mono ?_
          rintro e w2 ⟨rfl, rfl⟩
          rw [hin]
          go_wp2_with fail
          go_round
          case rel => exact ⟨k + 1, by rw [show lo + ((k + 1 : Nat) : Int) = lo + (k : Int) + 1 by omega], by omega, by rw [HY.out.1, HGe.out], by rw [HY.out.2, HAe.out]⟩
          case measure => simp [RowKit.intOf]; omega
        · have hin' : inB (lo + (k : Int)) days = false := by simpa using hin
          have HY := Lib.hid (giv_out hmod hin')
          clear hmod
          go_wp2_with fail
          go_at_call 73
          refine (HIs.out _).mono ?_
          rintro e w2 ⟨rfl, rfl⟩
          rw [hin']
          go_wp2_with fail
          go_round
          case rel => exact ⟨k + 1, by rw [show lo + ((k + 1 : Nat) : Int) = lo + (k : Int) + 1 by omega], by omega, by rw [HY.out.1, HGe.out], by rw [HY.out.2, HAe.out]⟩
          case measure => simp [RowKit.intOf]; omega
end Go.Proofs.Ytemejcbilhcebaa
